/-
  DeadLess.
-/
import Derived.Test.YtkdhkljnpalajaaJg
namespace Go.Proofs.Ytkdhkljnpalajaa
open Go.RowKit Go.Sort
set_option linter.unusedSimpArgs false
set_option linter.unusedVariables false
set_option maxRecDepth 20000

theorem pickN_any (a n : Int) (hn : 0 < n) (hn2 : n ≤ 1000000) (w : World) :
    Calls Try.prog 19 #[.int .i64 a, .int .i64 n] w fun e w' => e = .returned (.int .i64 (a % n)) ∧ w = w' := by
  have h1 := Int.tmod_lt_of_pos a hn
  have h2 := Int.lt_tmod_of_pos a hn
  have hm := tmod_pos n hn a
  have hne : ¬ n = 0 := by omega
  have hn1 : ¬ n < 1 := by omega
  have s2 : IntKind.i64.wrap (a.tmod n) = a.tmod n := IntWalk.i64_in _ (by omega)
  by_cases h0 : a.tmod n < 0
  · rw [if_pos h0] at hm
    rw [hm]
    clear hm
    have s1 : IntKind.i64.wrap (a.tmod n + n) = a.tmod n + n := IntWalk.i64_in _ (by omega)
    go_enter Try.func19, Try.ntmps19
    go_wp2
    go_ret
    exact ⟨rfl, rfl⟩
  · rw [if_neg h0] at hm
    rw [hm]
    clear hm
    go_enter Try.func19, Try.ntmps19
    go_wp2
    go_ret
    exact ⟨rfl, rfl⟩
/-- what stands in DeadLess -/
structure LS (w W : World) (P : Nat → Int) : Prop where
  pos : PB W w.heap.size P
  bel : Below w.heap.size w W
theorem LS.go {w W W' : World} {P : Nat → Int} (h : LS w W P) (g : Below W.heap.size W W') : LS w W' P := ⟨h.pos.go g, h.bel.trans (g.mono h.bel.size)⟩
set_option maxHeartbeats 4000000 in
set_option maxRecDepth 100000 in
theorem deadLess_any (P : Nat → Int) (a b : Int) (w : World) :
    Calls Try.prog 5 #[.agg (pc P).toArray, .int .i64 a, .int .i64 b] w fun e w' => e = .returned (.bool true) ∧ Below w.heap.size w w' := by
  obtain ⟨X, hX⟩ : ∃ X, X = (pc P).toArray := ⟨_, rfl⟩
  obtain ⟨Z, hZ⟩ : ∃ Z, Z = (pc (turnN P)).toArray := ⟨_, rfl⟩
  have AW := Lib.hid (fun W => awake13_any W)
  have IS := Lib.hid (fun W => is13_any P W)
  have OF := Lib.hid (fun W => of13_any P W)
  have LD := Lib.hid (fun W => deadL_any (cntD P 64) W)
  have TU := Lib.hid (fun W => turn_any P W)
  have OFT := Lib.hid (fun W => of13_any (turnN P) W)
  have IST := Lib.hid (fun W => is13_any (turnN P) W)
  rw [cnt_turn] at OFT IST
  rw [dead_swap] at IST
  have HLE := Lib.hid (fun s hs d => cnt_less P s hs d)
  obtain ⟨⟨b1, b2⟩, ⟨b3, b4⟩, ⟨b5, b6⟩, b7, b8⟩ := cntD_LB P 64
  obtain ⟨x, hx⟩ : ∃ x, cntD P 64 = x := ⟨_, rfl⟩
  rw [hx] at IS OF LD OFT IST HLE b1 b2 b3 b4 b5 b6 b7 b8
  obtain ⟨is, his⟩ : ∃ b, deadB x = b := ⟨_, rfl⟩
  rw [his] at IS LD IST HLE
  rw [← hX] at IS OF TU
  rw [← hZ] at OFT IST TU
  rw [← hX]
  unfold lfA at OF OFT LD
  dsimp only at OF OFT LD
  have H0 := Lib.hid (show LS w (w.alloc (.cells X 29)) P from ⟨pos_box P w X hX 29, below_new _⟩)
  have HX := Lib.hid hX
  have HZ := Lib.hid hZ
  clear hX hZ hx his
  have hii : (is == is) = true := by simp
  have hin : (is != is) = false := by simp
  go_enter Try.func5, Try.ntmps5
  go_upto_region 1 with (fail)
  generalize w.alloc (.cells X 29) = W at *
  go_wp2_with fail
  refine (AW.out _).mono ?_
  rintro e w1 ⟨rfl, hb⟩
  replace H0 := Lib.hid (H0.out.go hb)
  clear hb
  go_wp2_with (refine wpList_pos (by rfl) _ (by rfl) w.heap.size P X HX.out (by rfl) H0.out.pos ?_)
  refine (IS.out _).mono ?_
  rintro e w2 ⟨rfl, hb⟩
  replace H0 := Lib.hid (H0.out.go hb)
  clear hb
  dsimp only
  refine list_go (by assumption) ?_
  go_wp2_with (refine wpList_pos (by rfl) _ (by rfl) w.heap.size P X HX.out (by rfl) H0.out.pos ?_)
  refine (OF.out _).mono ?_
  rintro e w3 ⟨rfl, hb⟩
  replace H0 := Lib.hid (H0.out.go hb)
  clear hb
  dsimp only
  refine list_go (by assumption) ?_
  go_wp2_with fail
  refine (LD.out _).mono ?_
  rintro e w4 ⟨rfl, hb⟩
  replace H0 := Lib.hid (H0.out.go hb)
  clear hb LD
  go_wp2_with (refine wpList_pos (by rfl) _ (by rfl) w.heap.size P X HX.out (by rfl) H0.out.pos ?_)
  refine (TU.out _).mono ?_
  rintro e w5 ⟨rfl, hb⟩
  replace H0 := Lib.hid (H0.out.go hb)
  clear hb
  dsimp only
  refine list_go (by assumption) ?_
  go_wp2_with (refine wpList_new Z (turnN P) HZ.out (by rfl) (by rfl) ?_)
  intro W6 hp6 hb6 hz6
  have H5L := Lib.hid (show w.heap.size < w5.heap.size from H0.out.pos.lt)
  replace H0 := Lib.hid (H0.out.go hb6)
  have HP6 := Lib.hid hp6
  have HN6 := Lib.hid (show w.heap.size < w5.heap.size from Nat.lt_of_lt_of_le H5L.out (Nat.le_refl _))
  clear hp6 hb6 hz6
  go_upto_region 7 with (fail)
  simp only [Act.put, List.setIfInBounds_toArray, List.set_cons_zero, List.set_cons_succ]
  go_cut [9, 10] from 24 to 27 (fun va vb wx => ∃ xb yb, va = .pointer (some ⟨xb, 0, none⟩) ∧ vb = .pointer (some ⟨yb, 0, none⟩) ∧ TB 31 wx xb x ∧ TB 31 wx yb ⟨x.h, x.k, x.l, x.d⟩ ∧ Below W6.heap.size W6 wx)
  case first =>
    refine wp_region_noPanic ?_
    refine wp_region_start (n := 8) (l := #[false, false, false, false, false, false, false, false]) (S := (fun W => Below W6.heap.size W6 W)) (by kernel_rfl) rfl (by kernel_rfl) (by first | exact HBW.out | exact (Below.refl _ _).drew) (fun hHeld => ?_)
    have HBW := Lib.hid (show Below W6.heap.size W6 W6.drew from (Below.refl _ _).drew)
    generalize W6.drew = V at hHeld HBW ⊢
    refine take_to (i := 0) (d := some 24) (v := (.agg X)) (l' := #[true, false, false, false, false, false, false, false]) rfl rfl (by kernel_rfl) (by kernel_rfl) (by kernel_rfl) (by kernel_rfl) (fun _ _ _ h => h) ?_ (by assumption) ?_
    · exact yields_posC (by rfl) _ (by rfl) w.heap.size P X HX.out (by rfl) (fun W h => H0.out.pos.go h)
    try simp only [Act.put, List.setIfInBounds_toArray, List.set_cons_zero, List.set_cons_succ]
    refine take_to (i := 2) (d := some 26) (v := (.agg Z)) (l' := #[true, false, true, false, false, false, false, false]) rfl rfl (by kernel_rfl) (by kernel_rfl) (by kernel_rfl) (by kernel_rfl) (fun _ _ _ h => h) ?_ (by assumption) ?_
    · exact yields_posC (by rfl) _ (by rfl) w5.heap.size (turnN P) Z HZ.out (by rfl) (fun W h => HP6.out.go h)
    try simp only [Act.put, List.setIfInBounds_toArray, List.set_cons_zero, List.set_cons_succ]
    refine three_to (i := 1) (j := 4) (k := 5) (l1 := #[true, true, true, false, false, false, false, false]) (l2 := #[true, false, true, false, true, false, false, false]) (l3 := #[true, false, true, false, false, true, false, false]) rfl rfl rfl (by kernel_rfl) (by kernel_rfl) (by kernel_rfl) (by kernel_rfl) (fun K hK => ?_) (fun K hK => ?_) (fun K hK => ?_)
    · skip
      go_simp
      refine (OF.out _).mono ?_
      rintro e V ⟨rfl, hb⟩
      replace HBW := Lib.hid (HBW.out.trans (hb.mono HBW.out.size))
      try replace HX1 := Lib.hid (HX1.out.go hb)
      try replace HY1 := Lib.hid (HY1.out.go hb)
      clear hb
      dsimp only
      refine hK.out _ _ (by first | exact HBW.out | exact (Below.refl _ _).drew) (fun hHeld => ?_)
      clear hK K
      try simp only [Act.put, List.setIfInBounds_toArray, List.set_cons_zero, List.set_cons_succ]
      refine three_to (i := 3) (j := 4) (k := 5) (l1 := #[true, true, true, true, false, false, false, false]) (l2 := #[true, true, true, false, true, false, false, false]) (l3 := #[true, true, true, false, false, true, false, false]) rfl rfl rfl (by kernel_rfl) (by kernel_rfl) (by kernel_rfl) (by kernel_rfl) (fun K hK => ?_) (fun K hK => ?_) (fun K hK => ?_)
      · skip
        go_simp
        refine (OFT.out _).mono ?_
        rintro e V ⟨rfl, hb⟩
        replace HBW := Lib.hid (HBW.out.trans (hb.mono HBW.out.size))
        try replace HX1 := Lib.hid (HX1.out.go hb)
        try replace HY1 := Lib.hid (HY1.out.go hb)
        clear hb
        dsimp only
        refine hK.out _ _ (by first | exact HBW.out | exact (Below.refl _ _).drew) (fun hHeld => ?_)
        clear hK K
        try simp only [Act.put, List.setIfInBounds_toArray, List.set_cons_zero, List.set_cons_succ]
        refine two_to (i := 4) (j := 5) (l1 := #[true, true, true, true, true, false, false, false]) (l2 := #[true, true, true, true, false, true, false, false]) rfl rfl (by kernel_rfl) (by kernel_rfl) (by kernel_rfl) (fun K hK => ?_) (fun K hK => ?_)
        · skip
          go_simp
          have HX1 := Lib.hid (show TB 31 (V.alloc (.cells #[.int .i64 0, .int .i64 0, .int .i64 0, .int .i64 0] 31)) V.heap.size ⟨0, 0, 0, 0⟩ from sl_at rfl)
          have HXL := Lib.hid (show W6.heap.size ≤ V.heap.size from HBW.out.size)
          try have HNE := Lib.hid (show V.heap.size ≠ yb from Nat.ne_of_gt HY1.out.lt)
          try replace HY1 := Lib.hid (HY1.out.go (below_new (.cells #[.int .i64 0, .int .i64 0, .int .i64 0, .int .i64 0] 31)))
          replace HBW := Lib.hid (HBW.out.alloc HBW.out.size (.cells #[.int .i64 0, .int .i64 0, .int .i64 0, .int .i64 0] 31))
          generalize V.heap.size = xb at *
          generalize V.alloc (.cells #[.int .i64 0, .int .i64 0, .int .i64 0, .int .i64 0] 31) = V at *
          refine hK.out _ _ (by first | exact HBW.out | exact (Below.refl _ _).drew) (fun hHeld => ?_)
          clear hK K
          try simp only [Act.put, List.setIfInBounds_toArray, List.set_cons_zero, List.set_cons_succ]
          refine one_to (i := 5) (l' := #[true, true, true, true, true, true, false, false]) rfl (by kernel_rfl) (by kernel_rfl) (fun K hK => ?_)
          go_simp
          have HY1 := Lib.hid (show TB 31 (V.alloc (.cells #[.int .i64 0, .int .i64 0, .int .i64 0, .int .i64 0] 31)) V.heap.size ⟨0, 0, 0, 0⟩ from sl_at rfl)
          have HYL := Lib.hid (show W6.heap.size ≤ V.heap.size from HBW.out.size)
          try have HNE := Lib.hid (show xb ≠ V.heap.size from Nat.ne_of_lt HX1.out.lt)
          try replace HX1 := Lib.hid (HX1.out.go (below_new (.cells #[.int .i64 0, .int .i64 0, .int .i64 0, .int .i64 0] 31)))
          replace HBW := Lib.hid (HBW.out.alloc HBW.out.size (.cells #[.int .i64 0, .int .i64 0, .int .i64 0, .int .i64 0] 31))
          generalize V.heap.size = yb at *
          generalize V.alloc (.cells #[.int .i64 0, .int .i64 0, .int .i64 0, .int .i64 0] 31) = V at *
          refine hK.out _ _ (by first | exact HBW.out | exact (Below.refl _ _).drew) (fun hHeld => ?_)
          clear hK K
          try simp only [Act.put, List.setIfInBounds_toArray, List.set_cons_zero, List.set_cons_succ]
          refine one_to (i := 6) (l' := #[true, true, true, true, true, true, true, false]) rfl (by kernel_rfl) (by kernel_rfl) (fun K hK => ?_)
          obtain ⟨u0, u1, u2, u3, uf, uz⟩ := row4c HX1.out
          have g0 := uf 0
          have g1 := uf 1
          have g2 := uf 2
          have g3 := uf 3
          clear uf uz
          go_simp
          clear u0 u1 u2 u3 g0 g1 g2 g3
          replace HX1 := Lib.hid (show TB 31 ((((V.setCell ⟨xb, 0, none⟩ (.int .i64 x.h)).setCell ⟨xb, 1, none⟩ (.int .i64 x.k)).setCell ⟨xb, 2, none⟩ (.int .i64 x.d)).setCell ⟨xb, 3, none⟩ (.int .i64 x.l)) xb x from put4c _ _ _ _ HX1.out)
          replace HY1 := Lib.hid (show TB 31 ((((V.setCell ⟨xb, 0, none⟩ (.int .i64 x.h)).setCell ⟨xb, 1, none⟩ (.int .i64 x.k)).setCell ⟨xb, 2, none⟩ (.int .i64 x.d)).setCell ⟨xb, 3, none⟩ (.int .i64 x.l)) yb _ from HY1.out.other4 HNE.out.symm _ _ _ _)
          replace HBW := Lib.hid (show Below W6.heap.size W6 ((((V.setCell ⟨xb, 0, none⟩ (.int .i64 x.h)).setCell ⟨xb, 1, none⟩ (.int .i64 x.k)).setCell ⟨xb, 2, none⟩ (.int .i64 x.d)).setCell ⟨xb, 3, none⟩ (.int .i64 x.l)) from below_put4 _ _ _ _ HBW.out HXL.out)
          generalize ((((V.setCell ⟨xb, 0, none⟩ (.int .i64 x.h)).setCell ⟨xb, 1, none⟩ (.int .i64 x.k)).setCell ⟨xb, 2, none⟩ (.int .i64 x.d)).setCell ⟨xb, 3, none⟩ (.int .i64 x.l)) = V at *
          refine hK.out _ _ (by first | exact HBW.out | exact (Below.refl _ _).drew) (fun hHeld => ?_)
          clear hK K
          try simp only [Act.put, List.setIfInBounds_toArray, List.set_cons_zero, List.set_cons_succ]
          refine one_to (i := 7) (l' := #[true, true, true, true, true, true, true, true]) rfl (by kernel_rfl) (by kernel_rfl) (fun K hK => ?_)
          obtain ⟨u0, u1, u2, u3, uf, uz⟩ := row4c HY1.out
          have g0 := uf 0
          have g1 := uf 1
          have g2 := uf 2
          have g3 := uf 3
          clear uf uz
          go_simp
          clear u0 u1 u2 u3 g0 g1 g2 g3
          replace HY1 := Lib.hid (show TB 31 ((((V.setCell ⟨yb, 0, none⟩ (.int .i64 x.h)).setCell ⟨yb, 1, none⟩ (.int .i64 x.k)).setCell ⟨yb, 2, none⟩ (.int .i64 x.l)).setCell ⟨yb, 3, none⟩ (.int .i64 x.d)) yb ⟨x.h, x.k, x.l, x.d⟩ from put4c _ _ _ _ HY1.out)
          replace HX1 := Lib.hid (show TB 31 ((((V.setCell ⟨yb, 0, none⟩ (.int .i64 x.h)).setCell ⟨yb, 1, none⟩ (.int .i64 x.k)).setCell ⟨yb, 2, none⟩ (.int .i64 x.l)).setCell ⟨yb, 3, none⟩ (.int .i64 x.d)) xb _ from HX1.out.other4 HNE.out _ _ _ _)
          replace HBW := Lib.hid (show Below W6.heap.size W6 ((((V.setCell ⟨yb, 0, none⟩ (.int .i64 x.h)).setCell ⟨yb, 1, none⟩ (.int .i64 x.k)).setCell ⟨yb, 2, none⟩ (.int .i64 x.l)).setCell ⟨yb, 3, none⟩ (.int .i64 x.d)) from below_put4 _ _ _ _ HBW.out HYL.out)
          generalize ((((V.setCell ⟨yb, 0, none⟩ (.int .i64 x.h)).setCell ⟨yb, 1, none⟩ (.int .i64 x.k)).setCell ⟨yb, 2, none⟩ (.int .i64 x.l)).setCell ⟨yb, 3, none⟩ (.int .i64 x.d)) = V at *
          refine hK.out _ _ (by first | exact HBW.out | exact (Below.refl _ _).drew) (fun hHeld => ?_)
          clear hK K
          try simp only [Act.put, List.setIfInBounds_toArray, List.set_cons_zero, List.set_cons_succ]
          refine wpAnyH_done (by kernel_rfl) ?_ _
          refine NoPanic.normal ?_
          clear hHeld
          go_wp2_with fail
          go_meet
          exact ⟨xb, yb, rfl, rfl, HX1.out, HY1.out, HBW.out⟩
        · skip
          go_simp
          have HY1 := Lib.hid (show TB 31 (V.alloc (.cells #[.int .i64 0, .int .i64 0, .int .i64 0, .int .i64 0] 31)) V.heap.size ⟨0, 0, 0, 0⟩ from sl_at rfl)
          have HYL := Lib.hid (show W6.heap.size ≤ V.heap.size from HBW.out.size)
          try have HNE := Lib.hid (show xb ≠ V.heap.size from Nat.ne_of_lt HX1.out.lt)
          try replace HX1 := Lib.hid (HX1.out.go (below_new (.cells #[.int .i64 0, .int .i64 0, .int .i64 0, .int .i64 0] 31)))
          replace HBW := Lib.hid (HBW.out.alloc HBW.out.size (.cells #[.int .i64 0, .int .i64 0, .int .i64 0, .int .i64 0] 31))
          generalize V.heap.size = yb at *
          generalize V.alloc (.cells #[.int .i64 0, .int .i64 0, .int .i64 0, .int .i64 0] 31) = V at *
          refine hK.out _ _ (by first | exact HBW.out | exact (Below.refl _ _).drew) (fun hHeld => ?_)
          clear hK K
          try simp only [Act.put, List.setIfInBounds_toArray, List.set_cons_zero, List.set_cons_succ]
          refine one_to (i := 4) (l' := #[true, true, true, true, true, true, false, false]) rfl (by kernel_rfl) (by kernel_rfl) (fun K hK => ?_)
          go_simp
          have HX1 := Lib.hid (show TB 31 (V.alloc (.cells #[.int .i64 0, .int .i64 0, .int .i64 0, .int .i64 0] 31)) V.heap.size ⟨0, 0, 0, 0⟩ from sl_at rfl)
          have HXL := Lib.hid (show W6.heap.size ≤ V.heap.size from HBW.out.size)
          try have HNE := Lib.hid (show V.heap.size ≠ yb from Nat.ne_of_gt HY1.out.lt)
          try replace HY1 := Lib.hid (HY1.out.go (below_new (.cells #[.int .i64 0, .int .i64 0, .int .i64 0, .int .i64 0] 31)))
          replace HBW := Lib.hid (HBW.out.alloc HBW.out.size (.cells #[.int .i64 0, .int .i64 0, .int .i64 0, .int .i64 0] 31))
          generalize V.heap.size = xb at *
          generalize V.alloc (.cells #[.int .i64 0, .int .i64 0, .int .i64 0, .int .i64 0] 31) = V at *
          refine hK.out _ _ (by first | exact HBW.out | exact (Below.refl _ _).drew) (fun hHeld => ?_)
          clear hK K
          try simp only [Act.put, List.setIfInBounds_toArray, List.set_cons_zero, List.set_cons_succ]
          refine one_to (i := 6) (l' := #[true, true, true, true, true, true, true, false]) rfl (by kernel_rfl) (by kernel_rfl) (fun K hK => ?_)
          obtain ⟨u0, u1, u2, u3, uf, uz⟩ := row4c HX1.out
          have g0 := uf 0
          have g1 := uf 1
          have g2 := uf 2
          have g3 := uf 3
          clear uf uz
          go_simp
          clear u0 u1 u2 u3 g0 g1 g2 g3
          replace HX1 := Lib.hid (show TB 31 ((((V.setCell ⟨xb, 0, none⟩ (.int .i64 x.h)).setCell ⟨xb, 1, none⟩ (.int .i64 x.k)).setCell ⟨xb, 2, none⟩ (.int .i64 x.d)).setCell ⟨xb, 3, none⟩ (.int .i64 x.l)) xb x from put4c _ _ _ _ HX1.out)
          replace HY1 := Lib.hid (show TB 31 ((((V.setCell ⟨xb, 0, none⟩ (.int .i64 x.h)).setCell ⟨xb, 1, none⟩ (.int .i64 x.k)).setCell ⟨xb, 2, none⟩ (.int .i64 x.d)).setCell ⟨xb, 3, none⟩ (.int .i64 x.l)) yb _ from HY1.out.other4 HNE.out.symm _ _ _ _)
          replace HBW := Lib.hid (show Below W6.heap.size W6 ((((V.setCell ⟨xb, 0, none⟩ (.int .i64 x.h)).setCell ⟨xb, 1, none⟩ (.int .i64 x.k)).setCell ⟨xb, 2, none⟩ (.int .i64 x.d)).setCell ⟨xb, 3, none⟩ (.int .i64 x.l)) from below_put4 _ _ _ _ HBW.out HXL.out)
          generalize ((((V.setCell ⟨xb, 0, none⟩ (.int .i64 x.h)).setCell ⟨xb, 1, none⟩ (.int .i64 x.k)).setCell ⟨xb, 2, none⟩ (.int .i64 x.d)).setCell ⟨xb, 3, none⟩ (.int .i64 x.l)) = V at *
          refine hK.out _ _ (by first | exact HBW.out | exact (Below.refl _ _).drew) (fun hHeld => ?_)
          clear hK K
          try simp only [Act.put, List.setIfInBounds_toArray, List.set_cons_zero, List.set_cons_succ]
          refine one_to (i := 7) (l' := #[true, true, true, true, true, true, true, true]) rfl (by kernel_rfl) (by kernel_rfl) (fun K hK => ?_)
          obtain ⟨u0, u1, u2, u3, uf, uz⟩ := row4c HY1.out
          have g0 := uf 0
          have g1 := uf 1
          have g2 := uf 2
          have g3 := uf 3
          clear uf uz
          go_simp
          clear u0 u1 u2 u3 g0 g1 g2 g3
          replace HY1 := Lib.hid (show TB 31 ((((V.setCell ⟨yb, 0, none⟩ (.int .i64 x.h)).setCell ⟨yb, 1, none⟩ (.int .i64 x.k)).setCell ⟨yb, 2, none⟩ (.int .i64 x.l)).setCell ⟨yb, 3, none⟩ (.int .i64 x.d)) yb ⟨x.h, x.k, x.l, x.d⟩ from put4c _ _ _ _ HY1.out)
          replace HX1 := Lib.hid (show TB 31 ((((V.setCell ⟨yb, 0, none⟩ (.int .i64 x.h)).setCell ⟨yb, 1, none⟩ (.int .i64 x.k)).setCell ⟨yb, 2, none⟩ (.int .i64 x.l)).setCell ⟨yb, 3, none⟩ (.int .i64 x.d)) xb _ from HX1.out.other4 HNE.out _ _ _ _)
          replace HBW := Lib.hid (show Below W6.heap.size W6 ((((V.setCell ⟨yb, 0, none⟩ (.int .i64 x.h)).setCell ⟨yb, 1, none⟩ (.int .i64 x.k)).setCell ⟨yb, 2, none⟩ (.int .i64 x.l)).setCell ⟨yb, 3, none⟩ (.int .i64 x.d)) from below_put4 _ _ _ _ HBW.out HYL.out)
          generalize ((((V.setCell ⟨yb, 0, none⟩ (.int .i64 x.h)).setCell ⟨yb, 1, none⟩ (.int .i64 x.k)).setCell ⟨yb, 2, none⟩ (.int .i64 x.l)).setCell ⟨yb, 3, none⟩ (.int .i64 x.d)) = V at *
          refine hK.out _ _ (by first | exact HBW.out | exact (Below.refl _ _).drew) (fun hHeld => ?_)
          clear hK K
          try simp only [Act.put, List.setIfInBounds_toArray, List.set_cons_zero, List.set_cons_succ]
          refine wpAnyH_done (by kernel_rfl) ?_ _
          refine NoPanic.normal ?_
          clear hHeld
          go_wp2_with fail
          go_meet
          exact ⟨xb, yb, rfl, rfl, HX1.out, HY1.out, HBW.out⟩
      · skip
        go_simp
        have HX1 := Lib.hid (show TB 31 (V.alloc (.cells #[.int .i64 0, .int .i64 0, .int .i64 0, .int .i64 0] 31)) V.heap.size ⟨0, 0, 0, 0⟩ from sl_at rfl)
        have HXL := Lib.hid (show W6.heap.size ≤ V.heap.size from HBW.out.size)
        try have HNE := Lib.hid (show V.heap.size ≠ yb from Nat.ne_of_gt HY1.out.lt)
        try replace HY1 := Lib.hid (HY1.out.go (below_new (.cells #[.int .i64 0, .int .i64 0, .int .i64 0, .int .i64 0] 31)))
        replace HBW := Lib.hid (HBW.out.alloc HBW.out.size (.cells #[.int .i64 0, .int .i64 0, .int .i64 0, .int .i64 0] 31))
        generalize V.heap.size = xb at *
        generalize V.alloc (.cells #[.int .i64 0, .int .i64 0, .int .i64 0, .int .i64 0] 31) = V at *
        refine hK.out _ _ (by first | exact HBW.out | exact (Below.refl _ _).drew) (fun hHeld => ?_)
        clear hK K
        try simp only [Act.put, List.setIfInBounds_toArray, List.set_cons_zero, List.set_cons_succ]
        refine two_to (i := 3) (j := 5) (l1 := #[true, true, true, true, true, false, false, false]) (l2 := #[true, true, true, false, true, true, false, false]) rfl rfl (by kernel_rfl) (by kernel_rfl) (by kernel_rfl) (fun K hK => ?_) (fun K hK => ?_)
        · skip
          go_simp
          refine (OFT.out _).mono ?_
          rintro e V ⟨rfl, hb⟩
          replace HBW := Lib.hid (HBW.out.trans (hb.mono HBW.out.size))
          try replace HX1 := Lib.hid (HX1.out.go hb)
          try replace HY1 := Lib.hid (HY1.out.go hb)
          clear hb
          dsimp only
          refine hK.out _ _ (by first | exact HBW.out | exact (Below.refl _ _).drew) (fun hHeld => ?_)
          clear hK K
          try simp only [Act.put, List.setIfInBounds_toArray, List.set_cons_zero, List.set_cons_succ]
          refine one_to (i := 5) (l' := #[true, true, true, true, true, true, false, false]) rfl (by kernel_rfl) (by kernel_rfl) (fun K hK => ?_)
          go_simp
          have HY1 := Lib.hid (show TB 31 (V.alloc (.cells #[.int .i64 0, .int .i64 0, .int .i64 0, .int .i64 0] 31)) V.heap.size ⟨0, 0, 0, 0⟩ from sl_at rfl)
          have HYL := Lib.hid (show W6.heap.size ≤ V.heap.size from HBW.out.size)
          try have HNE := Lib.hid (show xb ≠ V.heap.size from Nat.ne_of_lt HX1.out.lt)
          try replace HX1 := Lib.hid (HX1.out.go (below_new (.cells #[.int .i64 0, .int .i64 0, .int .i64 0, .int .i64 0] 31)))
          replace HBW := Lib.hid (HBW.out.alloc HBW.out.size (.cells #[.int .i64 0, .int .i64 0, .int .i64 0, .int .i64 0] 31))
          generalize V.heap.size = yb at *
          generalize V.alloc (.cells #[.int .i64 0, .int .i64 0, .int .i64 0, .int .i64 0] 31) = V at *
          refine hK.out _ _ (by first | exact HBW.out | exact (Below.refl _ _).drew) (fun hHeld => ?_)
          clear hK K
          try simp only [Act.put, List.setIfInBounds_toArray, List.set_cons_zero, List.set_cons_succ]
          refine one_to (i := 6) (l' := #[true, true, true, true, true, true, true, false]) rfl (by kernel_rfl) (by kernel_rfl) (fun K hK => ?_)
          obtain ⟨u0, u1, u2, u3, uf, uz⟩ := row4c HX1.out
          have g0 := uf 0
          have g1 := uf 1
          have g2 := uf 2
          have g3 := uf 3
          clear uf uz
          go_simp
          clear u0 u1 u2 u3 g0 g1 g2 g3
          replace HX1 := Lib.hid (show TB 31 ((((V.setCell ⟨xb, 0, none⟩ (.int .i64 x.h)).setCell ⟨xb, 1, none⟩ (.int .i64 x.k)).setCell ⟨xb, 2, none⟩ (.int .i64 x.d)).setCell ⟨xb, 3, none⟩ (.int .i64 x.l)) xb x from put4c _ _ _ _ HX1.out)
          replace HY1 := Lib.hid (show TB 31 ((((V.setCell ⟨xb, 0, none⟩ (.int .i64 x.h)).setCell ⟨xb, 1, none⟩ (.int .i64 x.k)).setCell ⟨xb, 2, none⟩ (.int .i64 x.d)).setCell ⟨xb, 3, none⟩ (.int .i64 x.l)) yb _ from HY1.out.other4 HNE.out.symm _ _ _ _)
          replace HBW := Lib.hid (show Below W6.heap.size W6 ((((V.setCell ⟨xb, 0, none⟩ (.int .i64 x.h)).setCell ⟨xb, 1, none⟩ (.int .i64 x.k)).setCell ⟨xb, 2, none⟩ (.int .i64 x.d)).setCell ⟨xb, 3, none⟩ (.int .i64 x.l)) from below_put4 _ _ _ _ HBW.out HXL.out)
          generalize ((((V.setCell ⟨xb, 0, none⟩ (.int .i64 x.h)).setCell ⟨xb, 1, none⟩ (.int .i64 x.k)).setCell ⟨xb, 2, none⟩ (.int .i64 x.d)).setCell ⟨xb, 3, none⟩ (.int .i64 x.l)) = V at *
          refine hK.out _ _ (by first | exact HBW.out | exact (Below.refl _ _).drew) (fun hHeld => ?_)
          clear hK K
          try simp only [Act.put, List.setIfInBounds_toArray, List.set_cons_zero, List.set_cons_succ]
          refine one_to (i := 7) (l' := #[true, true, true, true, true, true, true, true]) rfl (by kernel_rfl) (by kernel_rfl) (fun K hK => ?_)
          obtain ⟨u0, u1, u2, u3, uf, uz⟩ := row4c HY1.out
          have g0 := uf 0
          have g1 := uf 1
          have g2 := uf 2
          have g3 := uf 3
          clear uf uz
          go_simp
          clear u0 u1 u2 u3 g0 g1 g2 g3
          replace HY1 := Lib.hid (show TB 31 ((((V.setCell ⟨yb, 0, none⟩ (.int .i64 x.h)).setCell ⟨yb, 1, none⟩ (.int .i64 x.k)).setCell ⟨yb, 2, none⟩ (.int .i64 x.l)).setCell ⟨yb, 3, none⟩ (.int .i64 x.d)) yb ⟨x.h, x.k, x.l, x.d⟩ from put4c _ _ _ _ HY1.out)
          replace HX1 := Lib.hid (show TB 31 ((((V.setCell ⟨yb, 0, none⟩ (.int .i64 x.h)).setCell ⟨yb, 1, none⟩ (.int .i64 x.k)).setCell ⟨yb, 2, none⟩ (.int .i64 x.l)).setCell ⟨yb, 3, none⟩ (.int .i64 x.d)) xb _ from HX1.out.other4 HNE.out _ _ _ _)
          replace HBW := Lib.hid (show Below W6.heap.size W6 ((((V.setCell ⟨yb, 0, none⟩ (.int .i64 x.h)).setCell ⟨yb, 1, none⟩ (.int .i64 x.k)).setCell ⟨yb, 2, none⟩ (.int .i64 x.l)).setCell ⟨yb, 3, none⟩ (.int .i64 x.d)) from below_put4 _ _ _ _ HBW.out HYL.out)
          generalize ((((V.setCell ⟨yb, 0, none⟩ (.int .i64 x.h)).setCell ⟨yb, 1, none⟩ (.int .i64 x.k)).setCell ⟨yb, 2, none⟩ (.int .i64 x.l)).setCell ⟨yb, 3, none⟩ (.int .i64 x.d)) = V at *
          refine hK.out _ _ (by first | exact HBW.out | exact (Below.refl _ _).drew) (fun hHeld => ?_)
          clear hK K
          try simp only [Act.put, List.setIfInBounds_toArray, List.set_cons_zero, List.set_cons_succ]
          refine wpAnyH_done (by kernel_rfl) ?_ _
          refine NoPanic.normal ?_
          clear hHeld
          go_wp2_with fail
          go_meet
          exact ⟨xb, yb, rfl, rfl, HX1.out, HY1.out, HBW.out⟩
        · skip
          go_simp
          have HY1 := Lib.hid (show TB 31 (V.alloc (.cells #[.int .i64 0, .int .i64 0, .int .i64 0, .int .i64 0] 31)) V.heap.size ⟨0, 0, 0, 0⟩ from sl_at rfl)
          have HYL := Lib.hid (show W6.heap.size ≤ V.heap.size from HBW.out.size)
          try have HNE := Lib.hid (show xb ≠ V.heap.size from Nat.ne_of_lt HX1.out.lt)
          try replace HX1 := Lib.hid (HX1.out.go (below_new (.cells #[.int .i64 0, .int .i64 0, .int .i64 0, .int .i64 0] 31)))
          replace HBW := Lib.hid (HBW.out.alloc HBW.out.size (.cells #[.int .i64 0, .int .i64 0, .int .i64 0, .int .i64 0] 31))
          generalize V.heap.size = yb at *
          generalize V.alloc (.cells #[.int .i64 0, .int .i64 0, .int .i64 0, .int .i64 0] 31) = V at *
          refine hK.out _ _ (by first | exact HBW.out | exact (Below.refl _ _).drew) (fun hHeld => ?_)
          clear hK K
          try simp only [Act.put, List.setIfInBounds_toArray, List.set_cons_zero, List.set_cons_succ]
          refine one_to (i := 3) (l' := #[true, true, true, true, true, true, false, false]) rfl (by kernel_rfl) (by kernel_rfl) (fun K hK => ?_)
          go_simp
          refine (OFT.out _).mono ?_
          rintro e V ⟨rfl, hb⟩
          replace HBW := Lib.hid (HBW.out.trans (hb.mono HBW.out.size))
          try replace HX1 := Lib.hid (HX1.out.go hb)
          try replace HY1 := Lib.hid (HY1.out.go hb)
          clear hb
          dsimp only
          refine hK.out _ _ (by first | exact HBW.out | exact (Below.refl _ _).drew) (fun hHeld => ?_)
          clear hK K
          try simp only [Act.put, List.setIfInBounds_toArray, List.set_cons_zero, List.set_cons_succ]
          refine one_to (i := 6) (l' := #[true, true, true, true, true, true, true, false]) rfl (by kernel_rfl) (by kernel_rfl) (fun K hK => ?_)
          obtain ⟨u0, u1, u2, u3, uf, uz⟩ := row4c HX1.out
          have g0 := uf 0
          have g1 := uf 1
          have g2 := uf 2
          have g3 := uf 3
          clear uf uz
          go_simp
          clear u0 u1 u2 u3 g0 g1 g2 g3
          replace HX1 := Lib.hid (show TB 31 ((((V.setCell ⟨xb, 0, none⟩ (.int .i64 x.h)).setCell ⟨xb, 1, none⟩ (.int .i64 x.k)).setCell ⟨xb, 2, none⟩ (.int .i64 x.d)).setCell ⟨xb, 3, none⟩ (.int .i64 x.l)) xb x from put4c _ _ _ _ HX1.out)
          replace HY1 := Lib.hid (show TB 31 ((((V.setCell ⟨xb, 0, none⟩ (.int .i64 x.h)).setCell ⟨xb, 1, none⟩ (.int .i64 x.k)).setCell ⟨xb, 2, none⟩ (.int .i64 x.d)).setCell ⟨xb, 3, none⟩ (.int .i64 x.l)) yb _ from HY1.out.other4 HNE.out.symm _ _ _ _)
          replace HBW := Lib.hid (show Below W6.heap.size W6 ((((V.setCell ⟨xb, 0, none⟩ (.int .i64 x.h)).setCell ⟨xb, 1, none⟩ (.int .i64 x.k)).setCell ⟨xb, 2, none⟩ (.int .i64 x.d)).setCell ⟨xb, 3, none⟩ (.int .i64 x.l)) from below_put4 _ _ _ _ HBW.out HXL.out)
          generalize ((((V.setCell ⟨xb, 0, none⟩ (.int .i64 x.h)).setCell ⟨xb, 1, none⟩ (.int .i64 x.k)).setCell ⟨xb, 2, none⟩ (.int .i64 x.d)).setCell ⟨xb, 3, none⟩ (.int .i64 x.l)) = V at *
          refine hK.out _ _ (by first | exact HBW.out | exact (Below.refl _ _).drew) (fun hHeld => ?_)
          clear hK K
          try simp only [Act.put, List.setIfInBounds_toArray, List.set_cons_zero, List.set_cons_succ]
          refine one_to (i := 7) (l' := #[true, true, true, true, true, true, true, true]) rfl (by kernel_rfl) (by kernel_rfl) (fun K hK => ?_)
          obtain ⟨u0, u1, u2, u3, uf, uz⟩ := row4c HY1.out
          have g0 := uf 0
          have g1 := uf 1
          have g2 := uf 2
          have g3 := uf 3
          clear uf uz
          go_simp
          clear u0 u1 u2 u3 g0 g1 g2 g3
          replace HY1 := Lib.hid (show TB 31 ((((V.setCell ⟨yb, 0, none⟩ (.int .i64 x.h)).setCell ⟨yb, 1, none⟩ (.int .i64 x.k)).setCell ⟨yb, 2, none⟩ (.int .i64 x.l)).setCell ⟨yb, 3, none⟩ (.int .i64 x.d)) yb ⟨x.h, x.k, x.l, x.d⟩ from put4c _ _ _ _ HY1.out)
          replace HX1 := Lib.hid (show TB 31 ((((V.setCell ⟨yb, 0, none⟩ (.int .i64 x.h)).setCell ⟨yb, 1, none⟩ (.int .i64 x.k)).setCell ⟨yb, 2, none⟩ (.int .i64 x.l)).setCell ⟨yb, 3, none⟩ (.int .i64 x.d)) xb _ from HX1.out.other4 HNE.out _ _ _ _)
          replace HBW := Lib.hid (show Below W6.heap.size W6 ((((V.setCell ⟨yb, 0, none⟩ (.int .i64 x.h)).setCell ⟨yb, 1, none⟩ (.int .i64 x.k)).setCell ⟨yb, 2, none⟩ (.int .i64 x.l)).setCell ⟨yb, 3, none⟩ (.int .i64 x.d)) from below_put4 _ _ _ _ HBW.out HYL.out)
          generalize ((((V.setCell ⟨yb, 0, none⟩ (.int .i64 x.h)).setCell ⟨yb, 1, none⟩ (.int .i64 x.k)).setCell ⟨yb, 2, none⟩ (.int .i64 x.l)).setCell ⟨yb, 3, none⟩ (.int .i64 x.d)) = V at *
          refine hK.out _ _ (by first | exact HBW.out | exact (Below.refl _ _).drew) (fun hHeld => ?_)
          clear hK K
          try simp only [Act.put, List.setIfInBounds_toArray, List.set_cons_zero, List.set_cons_succ]
          refine wpAnyH_done (by kernel_rfl) ?_ _
          refine NoPanic.normal ?_
          clear hHeld
          go_wp2_with fail
          go_meet
          exact ⟨xb, yb, rfl, rfl, HX1.out, HY1.out, HBW.out⟩
      · skip
        go_simp
        have HY1 := Lib.hid (show TB 31 (V.alloc (.cells #[.int .i64 0, .int .i64 0, .int .i64 0, .int .i64 0] 31)) V.heap.size ⟨0, 0, 0, 0⟩ from sl_at rfl)
        have HYL := Lib.hid (show W6.heap.size ≤ V.heap.size from HBW.out.size)
        try have HNE := Lib.hid (show xb ≠ V.heap.size from Nat.ne_of_lt HX1.out.lt)
        try replace HX1 := Lib.hid (HX1.out.go (below_new (.cells #[.int .i64 0, .int .i64 0, .int .i64 0, .int .i64 0] 31)))
        replace HBW := Lib.hid (HBW.out.alloc HBW.out.size (.cells #[.int .i64 0, .int .i64 0, .int .i64 0, .int .i64 0] 31))
        generalize V.heap.size = yb at *
        generalize V.alloc (.cells #[.int .i64 0, .int .i64 0, .int .i64 0, .int .i64 0] 31) = V at *
        refine hK.out _ _ (by first | exact HBW.out | exact (Below.refl _ _).drew) (fun hHeld => ?_)
        clear hK K
        try simp only [Act.put, List.setIfInBounds_toArray, List.set_cons_zero, List.set_cons_succ]
        refine two_to (i := 3) (j := 4) (l1 := #[true, true, true, true, false, true, false, false]) (l2 := #[true, true, true, false, true, true, false, false]) rfl rfl (by kernel_rfl) (by kernel_rfl) (by kernel_rfl) (fun K hK => ?_) (fun K hK => ?_)
        · skip
          go_simp
          refine (OFT.out _).mono ?_
          rintro e V ⟨rfl, hb⟩
          replace HBW := Lib.hid (HBW.out.trans (hb.mono HBW.out.size))
          try replace HX1 := Lib.hid (HX1.out.go hb)
          try replace HY1 := Lib.hid (HY1.out.go hb)
          clear hb
          dsimp only
          refine hK.out _ _ (by first | exact HBW.out | exact (Below.refl _ _).drew) (fun hHeld => ?_)
          clear hK K
          try simp only [Act.put, List.setIfInBounds_toArray, List.set_cons_zero, List.set_cons_succ]
          refine one_to (i := 4) (l' := #[true, true, true, true, true, true, false, false]) rfl (by kernel_rfl) (by kernel_rfl) (fun K hK => ?_)
          go_simp
          have HX1 := Lib.hid (show TB 31 (V.alloc (.cells #[.int .i64 0, .int .i64 0, .int .i64 0, .int .i64 0] 31)) V.heap.size ⟨0, 0, 0, 0⟩ from sl_at rfl)
          have HXL := Lib.hid (show W6.heap.size ≤ V.heap.size from HBW.out.size)
          try have HNE := Lib.hid (show V.heap.size ≠ yb from Nat.ne_of_gt HY1.out.lt)
          try replace HY1 := Lib.hid (HY1.out.go (below_new (.cells #[.int .i64 0, .int .i64 0, .int .i64 0, .int .i64 0] 31)))
          replace HBW := Lib.hid (HBW.out.alloc HBW.out.size (.cells #[.int .i64 0, .int .i64 0, .int .i64 0, .int .i64 0] 31))
          generalize V.heap.size = xb at *
          generalize V.alloc (.cells #[.int .i64 0, .int .i64 0, .int .i64 0, .int .i64 0] 31) = V at *
          refine hK.out _ _ (by first | exact HBW.out | exact (Below.refl _ _).drew) (fun hHeld => ?_)
          clear hK K
          try simp only [Act.put, List.setIfInBounds_toArray, List.set_cons_zero, List.set_cons_succ]
          refine one_to (i := 6) (l' := #[true, true, true, true, true, true, true, false]) rfl (by kernel_rfl) (by kernel_rfl) (fun K hK => ?_)
          obtain ⟨u0, u1, u2, u3, uf, uz⟩ := row4c HX1.out
          have g0 := uf 0
          have g1 := uf 1
          have g2 := uf 2
          have g3 := uf 3
          clear uf uz
          go_simp
          clear u0 u1 u2 u3 g0 g1 g2 g3
          replace HX1 := Lib.hid (show TB 31 ((((V.setCell ⟨xb, 0, none⟩ (.int .i64 x.h)).setCell ⟨xb, 1, none⟩ (.int .i64 x.k)).setCell ⟨xb, 2, none⟩ (.int .i64 x.d)).setCell ⟨xb, 3, none⟩ (.int .i64 x.l)) xb x from put4c _ _ _ _ HX1.out)
          replace HY1 := Lib.hid (show TB 31 ((((V.setCell ⟨xb, 0, none⟩ (.int .i64 x.h)).setCell ⟨xb, 1, none⟩ (.int .i64 x.k)).setCell ⟨xb, 2, none⟩ (.int .i64 x.d)).setCell ⟨xb, 3, none⟩ (.int .i64 x.l)) yb _ from HY1.out.other4 HNE.out.symm _ _ _ _)
          replace HBW := Lib.hid (show Below W6.heap.size W6 ((((V.setCell ⟨xb, 0, none⟩ (.int .i64 x.h)).setCell ⟨xb, 1, none⟩ (.int .i64 x.k)).setCell ⟨xb, 2, none⟩ (.int .i64 x.d)).setCell ⟨xb, 3, none⟩ (.int .i64 x.l)) from below_put4 _ _ _ _ HBW.out HXL.out)
          generalize ((((V.setCell ⟨xb, 0, none⟩ (.int .i64 x.h)).setCell ⟨xb, 1, none⟩ (.int .i64 x.k)).setCell ⟨xb, 2, none⟩ (.int .i64 x.d)).setCell ⟨xb, 3, none⟩ (.int .i64 x.l)) = V at *
          refine hK.out _ _ (by first | exact HBW.out | exact (Below.refl _ _).drew) (fun hHeld => ?_)
          clear hK K
          try simp only [Act.put, List.setIfInBounds_toArray, List.set_cons_zero, List.set_cons_succ]
          refine one_to (i := 7) (l' := #[true, true, true, true, true, true, true, true]) rfl (by kernel_rfl) (by kernel_rfl) (fun K hK => ?_)
          obtain ⟨u0, u1, u2, u3, uf, uz⟩ := row4c HY1.out
          have g0 := uf 0
          have g1 := uf 1
          have g2 := uf 2
          have g3 := uf 3
          clear uf uz
          go_simp
          clear u0 u1 u2 u3 g0 g1 g2 g3
          replace HY1 := Lib.hid (show TB 31 ((((V.setCell ⟨yb, 0, none⟩ (.int .i64 x.h)).setCell ⟨yb, 1, none⟩ (.int .i64 x.k)).setCell ⟨yb, 2, none⟩ (.int .i64 x.l)).setCell ⟨yb, 3, none⟩ (.int .i64 x.d)) yb ⟨x.h, x.k, x.l, x.d⟩ from put4c _ _ _ _ HY1.out)
          replace HX1 := Lib.hid (show TB 31 ((((V.setCell ⟨yb, 0, none⟩ (.int .i64 x.h)).setCell ⟨yb, 1, none⟩ (.int .i64 x.k)).setCell ⟨yb, 2, none⟩ (.int .i64 x.l)).setCell ⟨yb, 3, none⟩ (.int .i64 x.d)) xb _ from HX1.out.other4 HNE.out _ _ _ _)
          replace HBW := Lib.hid (show Below W6.heap.size W6 ((((V.setCell ⟨yb, 0, none⟩ (.int .i64 x.h)).setCell ⟨yb, 1, none⟩ (.int .i64 x.k)).setCell ⟨yb, 2, none⟩ (.int .i64 x.l)).setCell ⟨yb, 3, none⟩ (.int .i64 x.d)) from below_put4 _ _ _ _ HBW.out HYL.out)
          generalize ((((V.setCell ⟨yb, 0, none⟩ (.int .i64 x.h)).setCell ⟨yb, 1, none⟩ (.int .i64 x.k)).setCell ⟨yb, 2, none⟩ (.int .i64 x.l)).setCell ⟨yb, 3, none⟩ (.int .i64 x.d)) = V at *
          refine hK.out _ _ (by first | exact HBW.out | exact (Below.refl _ _).drew) (fun hHeld => ?_)
          clear hK K
          try simp only [Act.put, List.setIfInBounds_toArray, List.set_cons_zero, List.set_cons_succ]
          refine wpAnyH_done (by kernel_rfl) ?_ _
          refine NoPanic.normal ?_
          clear hHeld
          go_wp2_with fail
          go_meet
          exact ⟨xb, yb, rfl, rfl, HX1.out, HY1.out, HBW.out⟩
        · skip
          go_simp
          have HX1 := Lib.hid (show TB 31 (V.alloc (.cells #[.int .i64 0, .int .i64 0, .int .i64 0, .int .i64 0] 31)) V.heap.size ⟨0, 0, 0, 0⟩ from sl_at rfl)
          have HXL := Lib.hid (show W6.heap.size ≤ V.heap.size from HBW.out.size)
          try have HNE := Lib.hid (show V.heap.size ≠ yb from Nat.ne_of_gt HY1.out.lt)
          try replace HY1 := Lib.hid (HY1.out.go (below_new (.cells #[.int .i64 0, .int .i64 0, .int .i64 0, .int .i64 0] 31)))
          replace HBW := Lib.hid (HBW.out.alloc HBW.out.size (.cells #[.int .i64 0, .int .i64 0, .int .i64 0, .int .i64 0] 31))
          generalize V.heap.size = xb at *
          generalize V.alloc (.cells #[.int .i64 0, .int .i64 0, .int .i64 0, .int .i64 0] 31) = V at *
          refine hK.out _ _ (by first | exact HBW.out | exact (Below.refl _ _).drew) (fun hHeld => ?_)
          clear hK K
          try simp only [Act.put, List.setIfInBounds_toArray, List.set_cons_zero, List.set_cons_succ]
          refine one_to (i := 3) (l' := #[true, true, true, true, true, true, false, false]) rfl (by kernel_rfl) (by kernel_rfl) (fun K hK => ?_)
          go_simp
          refine (OFT.out _).mono ?_
          rintro e V ⟨rfl, hb⟩
          replace HBW := Lib.hid (HBW.out.trans (hb.mono HBW.out.size))
          try replace HX1 := Lib.hid (HX1.out.go hb)
          try replace HY1 := Lib.hid (HY1.out.go hb)
          clear hb
          dsimp only
          refine hK.out _ _ (by first | exact HBW.out | exact (Below.refl _ _).drew) (fun hHeld => ?_)
          clear hK K
          try simp only [Act.put, List.setIfInBounds_toArray, List.set_cons_zero, List.set_cons_succ]
          refine one_to (i := 6) (l' := #[true, true, true, true, true, true, true, false]) rfl (by kernel_rfl) (by kernel_rfl) (fun K hK => ?_)
          obtain ⟨u0, u1, u2, u3, uf, uz⟩ := row4c HX1.out
          have g0 := uf 0
          have g1 := uf 1
          have g2 := uf 2
          have g3 := uf 3
          clear uf uz
          go_simp
          clear u0 u1 u2 u3 g0 g1 g2 g3
          replace HX1 := Lib.hid (show TB 31 ((((V.setCell ⟨xb, 0, none⟩ (.int .i64 x.h)).setCell ⟨xb, 1, none⟩ (.int .i64 x.k)).setCell ⟨xb, 2, none⟩ (.int .i64 x.d)).setCell ⟨xb, 3, none⟩ (.int .i64 x.l)) xb x from put4c _ _ _ _ HX1.out)
          replace HY1 := Lib.hid (show TB 31 ((((V.setCell ⟨xb, 0, none⟩ (.int .i64 x.h)).setCell ⟨xb, 1, none⟩ (.int .i64 x.k)).setCell ⟨xb, 2, none⟩ (.int .i64 x.d)).setCell ⟨xb, 3, none⟩ (.int .i64 x.l)) yb _ from HY1.out.other4 HNE.out.symm _ _ _ _)
          replace HBW := Lib.hid (show Below W6.heap.size W6 ((((V.setCell ⟨xb, 0, none⟩ (.int .i64 x.h)).setCell ⟨xb, 1, none⟩ (.int .i64 x.k)).setCell ⟨xb, 2, none⟩ (.int .i64 x.d)).setCell ⟨xb, 3, none⟩ (.int .i64 x.l)) from below_put4 _ _ _ _ HBW.out HXL.out)
          generalize ((((V.setCell ⟨xb, 0, none⟩ (.int .i64 x.h)).setCell ⟨xb, 1, none⟩ (.int .i64 x.k)).setCell ⟨xb, 2, none⟩ (.int .i64 x.d)).setCell ⟨xb, 3, none⟩ (.int .i64 x.l)) = V at *
          refine hK.out _ _ (by first | exact HBW.out | exact (Below.refl _ _).drew) (fun hHeld => ?_)
          clear hK K
          try simp only [Act.put, List.setIfInBounds_toArray, List.set_cons_zero, List.set_cons_succ]
          refine one_to (i := 7) (l' := #[true, true, true, true, true, true, true, true]) rfl (by kernel_rfl) (by kernel_rfl) (fun K hK => ?_)
          obtain ⟨u0, u1, u2, u3, uf, uz⟩ := row4c HY1.out
          have g0 := uf 0
          have g1 := uf 1
          have g2 := uf 2
          have g3 := uf 3
          clear uf uz
          go_simp
          clear u0 u1 u2 u3 g0 g1 g2 g3
          replace HY1 := Lib.hid (show TB 31 ((((V.setCell ⟨yb, 0, none⟩ (.int .i64 x.h)).setCell ⟨yb, 1, none⟩ (.int .i64 x.k)).setCell ⟨yb, 2, none⟩ (.int .i64 x.l)).setCell ⟨yb, 3, none⟩ (.int .i64 x.d)) yb ⟨x.h, x.k, x.l, x.d⟩ from put4c _ _ _ _ HY1.out)
          replace HX1 := Lib.hid (show TB 31 ((((V.setCell ⟨yb, 0, none⟩ (.int .i64 x.h)).setCell ⟨yb, 1, none⟩ (.int .i64 x.k)).setCell ⟨yb, 2, none⟩ (.int .i64 x.l)).setCell ⟨yb, 3, none⟩ (.int .i64 x.d)) xb _ from HX1.out.other4 HNE.out _ _ _ _)
          replace HBW := Lib.hid (show Below W6.heap.size W6 ((((V.setCell ⟨yb, 0, none⟩ (.int .i64 x.h)).setCell ⟨yb, 1, none⟩ (.int .i64 x.k)).setCell ⟨yb, 2, none⟩ (.int .i64 x.l)).setCell ⟨yb, 3, none⟩ (.int .i64 x.d)) from below_put4 _ _ _ _ HBW.out HYL.out)
          generalize ((((V.setCell ⟨yb, 0, none⟩ (.int .i64 x.h)).setCell ⟨yb, 1, none⟩ (.int .i64 x.k)).setCell ⟨yb, 2, none⟩ (.int .i64 x.l)).setCell ⟨yb, 3, none⟩ (.int .i64 x.d)) = V at *
          refine hK.out _ _ (by first | exact HBW.out | exact (Below.refl _ _).drew) (fun hHeld => ?_)
          clear hK K
          try simp only [Act.put, List.setIfInBounds_toArray, List.set_cons_zero, List.set_cons_succ]
          refine wpAnyH_done (by kernel_rfl) ?_ _
          refine NoPanic.normal ?_
          clear hHeld
          go_wp2_with fail
          go_meet
          exact ⟨xb, yb, rfl, rfl, HX1.out, HY1.out, HBW.out⟩
    · skip
      go_simp
      have HX1 := Lib.hid (show TB 31 (V.alloc (.cells #[.int .i64 0, .int .i64 0, .int .i64 0, .int .i64 0] 31)) V.heap.size ⟨0, 0, 0, 0⟩ from sl_at rfl)
      have HXL := Lib.hid (show W6.heap.size ≤ V.heap.size from HBW.out.size)
      try have HNE := Lib.hid (show V.heap.size ≠ yb from Nat.ne_of_gt HY1.out.lt)
      try replace HY1 := Lib.hid (HY1.out.go (below_new (.cells #[.int .i64 0, .int .i64 0, .int .i64 0, .int .i64 0] 31)))
      replace HBW := Lib.hid (HBW.out.alloc HBW.out.size (.cells #[.int .i64 0, .int .i64 0, .int .i64 0, .int .i64 0] 31))
      generalize V.heap.size = xb at *
      generalize V.alloc (.cells #[.int .i64 0, .int .i64 0, .int .i64 0, .int .i64 0] 31) = V at *
      refine hK.out _ _ (by first | exact HBW.out | exact (Below.refl _ _).drew) (fun hHeld => ?_)
      clear hK K
      try simp only [Act.put, List.setIfInBounds_toArray, List.set_cons_zero, List.set_cons_succ]
      refine two_to (i := 1) (j := 5) (l1 := #[true, true, true, false, true, false, false, false]) (l2 := #[true, false, true, false, true, true, false, false]) rfl rfl (by kernel_rfl) (by kernel_rfl) (by kernel_rfl) (fun K hK => ?_) (fun K hK => ?_)
      · skip
        go_simp
        refine (OF.out _).mono ?_
        rintro e V ⟨rfl, hb⟩
        replace HBW := Lib.hid (HBW.out.trans (hb.mono HBW.out.size))
        try replace HX1 := Lib.hid (HX1.out.go hb)
        try replace HY1 := Lib.hid (HY1.out.go hb)
        clear hb
        dsimp only
        refine hK.out _ _ (by first | exact HBW.out | exact (Below.refl _ _).drew) (fun hHeld => ?_)
        clear hK K
        try simp only [Act.put, List.setIfInBounds_toArray, List.set_cons_zero, List.set_cons_succ]
        refine two_to (i := 3) (j := 5) (l1 := #[true, true, true, true, true, false, false, false]) (l2 := #[true, true, true, false, true, true, false, false]) rfl rfl (by kernel_rfl) (by kernel_rfl) (by kernel_rfl) (fun K hK => ?_) (fun K hK => ?_)
        · skip
          go_simp
          refine (OFT.out _).mono ?_
          rintro e V ⟨rfl, hb⟩
          replace HBW := Lib.hid (HBW.out.trans (hb.mono HBW.out.size))
          try replace HX1 := Lib.hid (HX1.out.go hb)
          try replace HY1 := Lib.hid (HY1.out.go hb)
          clear hb
          dsimp only
          refine hK.out _ _ (by first | exact HBW.out | exact (Below.refl _ _).drew) (fun hHeld => ?_)
          clear hK K
          try simp only [Act.put, List.setIfInBounds_toArray, List.set_cons_zero, List.set_cons_succ]
          refine one_to (i := 5) (l' := #[true, true, true, true, true, true, false, false]) rfl (by kernel_rfl) (by kernel_rfl) (fun K hK => ?_)
          go_simp
          have HY1 := Lib.hid (show TB 31 (V.alloc (.cells #[.int .i64 0, .int .i64 0, .int .i64 0, .int .i64 0] 31)) V.heap.size ⟨0, 0, 0, 0⟩ from sl_at rfl)
          have HYL := Lib.hid (show W6.heap.size ≤ V.heap.size from HBW.out.size)
          try have HNE := Lib.hid (show xb ≠ V.heap.size from Nat.ne_of_lt HX1.out.lt)
          try replace HX1 := Lib.hid (HX1.out.go (below_new (.cells #[.int .i64 0, .int .i64 0, .int .i64 0, .int .i64 0] 31)))
          replace HBW := Lib.hid (HBW.out.alloc HBW.out.size (.cells #[.int .i64 0, .int .i64 0, .int .i64 0, .int .i64 0] 31))
          generalize V.heap.size = yb at *
          generalize V.alloc (.cells #[.int .i64 0, .int .i64 0, .int .i64 0, .int .i64 0] 31) = V at *
          refine hK.out _ _ (by first | exact HBW.out | exact (Below.refl _ _).drew) (fun hHeld => ?_)
          clear hK K
          try simp only [Act.put, List.setIfInBounds_toArray, List.set_cons_zero, List.set_cons_succ]
          refine one_to (i := 6) (l' := #[true, true, true, true, true, true, true, false]) rfl (by kernel_rfl) (by kernel_rfl) (fun K hK => ?_)
          obtain ⟨u0, u1, u2, u3, uf, uz⟩ := row4c HX1.out
          have g0 := uf 0
          have g1 := uf 1
          have g2 := uf 2
          have g3 := uf 3
          clear uf uz
          go_simp
          clear u0 u1 u2 u3 g0 g1 g2 g3
          replace HX1 := Lib.hid (show TB 31 ((((V.setCell ⟨xb, 0, none⟩ (.int .i64 x.h)).setCell ⟨xb, 1, none⟩ (.int .i64 x.k)).setCell ⟨xb, 2, none⟩ (.int .i64 x.d)).setCell ⟨xb, 3, none⟩ (.int .i64 x.l)) xb x from put4c _ _ _ _ HX1.out)
          replace HY1 := Lib.hid (show TB 31 ((((V.setCell ⟨xb, 0, none⟩ (.int .i64 x.h)).setCell ⟨xb, 1, none⟩ (.int .i64 x.k)).setCell ⟨xb, 2, none⟩ (.int .i64 x.d)).setCell ⟨xb, 3, none⟩ (.int .i64 x.l)) yb _ from HY1.out.other4 HNE.out.symm _ _ _ _)
          replace HBW := Lib.hid (show Below W6.heap.size W6 ((((V.setCell ⟨xb, 0, none⟩ (.int .i64 x.h)).setCell ⟨xb, 1, none⟩ (.int .i64 x.k)).setCell ⟨xb, 2, none⟩ (.int .i64 x.d)).setCell ⟨xb, 3, none⟩ (.int .i64 x.l)) from below_put4 _ _ _ _ HBW.out HXL.out)
          generalize ((((V.setCell ⟨xb, 0, none⟩ (.int .i64 x.h)).setCell ⟨xb, 1, none⟩ (.int .i64 x.k)).setCell ⟨xb, 2, none⟩ (.int .i64 x.d)).setCell ⟨xb, 3, none⟩ (.int .i64 x.l)) = V at *
          refine hK.out _ _ (by first | exact HBW.out | exact (Below.refl _ _).drew) (fun hHeld => ?_)
          clear hK K
          try simp only [Act.put, List.setIfInBounds_toArray, List.set_cons_zero, List.set_cons_succ]
          refine one_to (i := 7) (l' := #[true, true, true, true, true, true, true, true]) rfl (by kernel_rfl) (by kernel_rfl) (fun K hK => ?_)
          obtain ⟨u0, u1, u2, u3, uf, uz⟩ := row4c HY1.out
          have g0 := uf 0
          have g1 := uf 1
          have g2 := uf 2
          have g3 := uf 3
          clear uf uz
          go_simp
          clear u0 u1 u2 u3 g0 g1 g2 g3
          replace HY1 := Lib.hid (show TB 31 ((((V.setCell ⟨yb, 0, none⟩ (.int .i64 x.h)).setCell ⟨yb, 1, none⟩ (.int .i64 x.k)).setCell ⟨yb, 2, none⟩ (.int .i64 x.l)).setCell ⟨yb, 3, none⟩ (.int .i64 x.d)) yb ⟨x.h, x.k, x.l, x.d⟩ from put4c _ _ _ _ HY1.out)
          replace HX1 := Lib.hid (show TB 31 ((((V.setCell ⟨yb, 0, none⟩ (.int .i64 x.h)).setCell ⟨yb, 1, none⟩ (.int .i64 x.k)).setCell ⟨yb, 2, none⟩ (.int .i64 x.l)).setCell ⟨yb, 3, none⟩ (.int .i64 x.d)) xb _ from HX1.out.other4 HNE.out _ _ _ _)
          replace HBW := Lib.hid (show Below W6.heap.size W6 ((((V.setCell ⟨yb, 0, none⟩ (.int .i64 x.h)).setCell ⟨yb, 1, none⟩ (.int .i64 x.k)).setCell ⟨yb, 2, none⟩ (.int .i64 x.l)).setCell ⟨yb, 3, none⟩ (.int .i64 x.d)) from below_put4 _ _ _ _ HBW.out HYL.out)
          generalize ((((V.setCell ⟨yb, 0, none⟩ (.int .i64 x.h)).setCell ⟨yb, 1, none⟩ (.int .i64 x.k)).setCell ⟨yb, 2, none⟩ (.int .i64 x.l)).setCell ⟨yb, 3, none⟩ (.int .i64 x.d)) = V at *
          refine hK.out _ _ (by first | exact HBW.out | exact (Below.refl _ _).drew) (fun hHeld => ?_)
          clear hK K
          try simp only [Act.put, List.setIfInBounds_toArray, List.set_cons_zero, List.set_cons_succ]
          refine wpAnyH_done (by kernel_rfl) ?_ _
          refine NoPanic.normal ?_
          clear hHeld
          go_wp2_with fail
          go_meet
          exact ⟨xb, yb, rfl, rfl, HX1.out, HY1.out, HBW.out⟩
        · skip
          go_simp
          have HY1 := Lib.hid (show TB 31 (V.alloc (.cells #[.int .i64 0, .int .i64 0, .int .i64 0, .int .i64 0] 31)) V.heap.size ⟨0, 0, 0, 0⟩ from sl_at rfl)
          have HYL := Lib.hid (show W6.heap.size ≤ V.heap.size from HBW.out.size)
          try have HNE := Lib.hid (show xb ≠ V.heap.size from Nat.ne_of_lt HX1.out.lt)
          try replace HX1 := Lib.hid (HX1.out.go (below_new (.cells #[.int .i64 0, .int .i64 0, .int .i64 0, .int .i64 0] 31)))
          replace HBW := Lib.hid (HBW.out.alloc HBW.out.size (.cells #[.int .i64 0, .int .i64 0, .int .i64 0, .int .i64 0] 31))
          generalize V.heap.size = yb at *
          generalize V.alloc (.cells #[.int .i64 0, .int .i64 0, .int .i64 0, .int .i64 0] 31) = V at *
          refine hK.out _ _ (by first | exact HBW.out | exact (Below.refl _ _).drew) (fun hHeld => ?_)
          clear hK K
          try simp only [Act.put, List.setIfInBounds_toArray, List.set_cons_zero, List.set_cons_succ]
          refine one_to (i := 3) (l' := #[true, true, true, true, true, true, false, false]) rfl (by kernel_rfl) (by kernel_rfl) (fun K hK => ?_)
          go_simp
          refine (OFT.out _).mono ?_
          rintro e V ⟨rfl, hb⟩
          replace HBW := Lib.hid (HBW.out.trans (hb.mono HBW.out.size))
          try replace HX1 := Lib.hid (HX1.out.go hb)
          try replace HY1 := Lib.hid (HY1.out.go hb)
          clear hb
          dsimp only
          refine hK.out _ _ (by first | exact HBW.out | exact (Below.refl _ _).drew) (fun hHeld => ?_)
          clear hK K
          try simp only [Act.put, List.setIfInBounds_toArray, List.set_cons_zero, List.set_cons_succ]
          refine one_to (i := 6) (l' := #[true, true, true, true, true, true, true, false]) rfl (by kernel_rfl) (by kernel_rfl) (fun K hK => ?_)
          obtain ⟨u0, u1, u2, u3, uf, uz⟩ := row4c HX1.out
          have g0 := uf 0
          have g1 := uf 1
          have g2 := uf 2
          have g3 := uf 3
          clear uf uz
          go_simp
          clear u0 u1 u2 u3 g0 g1 g2 g3
          replace HX1 := Lib.hid (show TB 31 ((((V.setCell ⟨xb, 0, none⟩ (.int .i64 x.h)).setCell ⟨xb, 1, none⟩ (.int .i64 x.k)).setCell ⟨xb, 2, none⟩ (.int .i64 x.d)).setCell ⟨xb, 3, none⟩ (.int .i64 x.l)) xb x from put4c _ _ _ _ HX1.out)
          replace HY1 := Lib.hid (show TB 31 ((((V.setCell ⟨xb, 0, none⟩ (.int .i64 x.h)).setCell ⟨xb, 1, none⟩ (.int .i64 x.k)).setCell ⟨xb, 2, none⟩ (.int .i64 x.d)).setCell ⟨xb, 3, none⟩ (.int .i64 x.l)) yb _ from HY1.out.other4 HNE.out.symm _ _ _ _)
          replace HBW := Lib.hid (show Below W6.heap.size W6 ((((V.setCell ⟨xb, 0, none⟩ (.int .i64 x.h)).setCell ⟨xb, 1, none⟩ (.int .i64 x.k)).setCell ⟨xb, 2, none⟩ (.int .i64 x.d)).setCell ⟨xb, 3, none⟩ (.int .i64 x.l)) from below_put4 _ _ _ _ HBW.out HXL.out)
          generalize ((((V.setCell ⟨xb, 0, none⟩ (.int .i64 x.h)).setCell ⟨xb, 1, none⟩ (.int .i64 x.k)).setCell ⟨xb, 2, none⟩ (.int .i64 x.d)).setCell ⟨xb, 3, none⟩ (.int .i64 x.l)) = V at *
          refine hK.out _ _ (by first | exact HBW.out | exact (Below.refl _ _).drew) (fun hHeld => ?_)
          clear hK K
          try simp only [Act.put, List.setIfInBounds_toArray, List.set_cons_zero, List.set_cons_succ]
          refine one_to (i := 7) (l' := #[true, true, true, true, true, true, true, true]) rfl (by kernel_rfl) (by kernel_rfl) (fun K hK => ?_)
          obtain ⟨u0, u1, u2, u3, uf, uz⟩ := row4c HY1.out
          have g0 := uf 0
          have g1 := uf 1
          have g2 := uf 2
          have g3 := uf 3
          clear uf uz
          go_simp
          clear u0 u1 u2 u3 g0 g1 g2 g3
          replace HY1 := Lib.hid (show TB 31 ((((V.setCell ⟨yb, 0, none⟩ (.int .i64 x.h)).setCell ⟨yb, 1, none⟩ (.int .i64 x.k)).setCell ⟨yb, 2, none⟩ (.int .i64 x.l)).setCell ⟨yb, 3, none⟩ (.int .i64 x.d)) yb ⟨x.h, x.k, x.l, x.d⟩ from put4c _ _ _ _ HY1.out)
          replace HX1 := Lib.hid (show TB 31 ((((V.setCell ⟨yb, 0, none⟩ (.int .i64 x.h)).setCell ⟨yb, 1, none⟩ (.int .i64 x.k)).setCell ⟨yb, 2, none⟩ (.int .i64 x.l)).setCell ⟨yb, 3, none⟩ (.int .i64 x.d)) xb _ from HX1.out.other4 HNE.out _ _ _ _)
          replace HBW := Lib.hid (show Below W6.heap.size W6 ((((V.setCell ⟨yb, 0, none⟩ (.int .i64 x.h)).setCell ⟨yb, 1, none⟩ (.int .i64 x.k)).setCell ⟨yb, 2, none⟩ (.int .i64 x.l)).setCell ⟨yb, 3, none⟩ (.int .i64 x.d)) from below_put4 _ _ _ _ HBW.out HYL.out)
          generalize ((((V.setCell ⟨yb, 0, none⟩ (.int .i64 x.h)).setCell ⟨yb, 1, none⟩ (.int .i64 x.k)).setCell ⟨yb, 2, none⟩ (.int .i64 x.l)).setCell ⟨yb, 3, none⟩ (.int .i64 x.d)) = V at *
          refine hK.out _ _ (by first | exact HBW.out | exact (Below.refl _ _).drew) (fun hHeld => ?_)
          clear hK K
          try simp only [Act.put, List.setIfInBounds_toArray, List.set_cons_zero, List.set_cons_succ]
          refine wpAnyH_done (by kernel_rfl) ?_ _
          refine NoPanic.normal ?_
          clear hHeld
          go_wp2_with fail
          go_meet
          exact ⟨xb, yb, rfl, rfl, HX1.out, HY1.out, HBW.out⟩
      · skip
        go_simp
        have HY1 := Lib.hid (show TB 31 (V.alloc (.cells #[.int .i64 0, .int .i64 0, .int .i64 0, .int .i64 0] 31)) V.heap.size ⟨0, 0, 0, 0⟩ from sl_at rfl)
        have HYL := Lib.hid (show W6.heap.size ≤ V.heap.size from HBW.out.size)
        try have HNE := Lib.hid (show xb ≠ V.heap.size from Nat.ne_of_lt HX1.out.lt)
        try replace HX1 := Lib.hid (HX1.out.go (below_new (.cells #[.int .i64 0, .int .i64 0, .int .i64 0, .int .i64 0] 31)))
        replace HBW := Lib.hid (HBW.out.alloc HBW.out.size (.cells #[.int .i64 0, .int .i64 0, .int .i64 0, .int .i64 0] 31))
        generalize V.heap.size = yb at *
        generalize V.alloc (.cells #[.int .i64 0, .int .i64 0, .int .i64 0, .int .i64 0] 31) = V at *
        refine hK.out _ _ (by first | exact HBW.out | exact (Below.refl _ _).drew) (fun hHeld => ?_)
        clear hK K
        try simp only [Act.put, List.setIfInBounds_toArray, List.set_cons_zero, List.set_cons_succ]
        refine one_to (i := 1) (l' := #[true, true, true, false, true, true, false, false]) rfl (by kernel_rfl) (by kernel_rfl) (fun K hK => ?_)
        go_simp
        refine (OF.out _).mono ?_
        rintro e V ⟨rfl, hb⟩
        replace HBW := Lib.hid (HBW.out.trans (hb.mono HBW.out.size))
        try replace HX1 := Lib.hid (HX1.out.go hb)
        try replace HY1 := Lib.hid (HY1.out.go hb)
        clear hb
        dsimp only
        refine hK.out _ _ (by first | exact HBW.out | exact (Below.refl _ _).drew) (fun hHeld => ?_)
        clear hK K
        try simp only [Act.put, List.setIfInBounds_toArray, List.set_cons_zero, List.set_cons_succ]
        refine one_to (i := 3) (l' := #[true, true, true, true, true, true, false, false]) rfl (by kernel_rfl) (by kernel_rfl) (fun K hK => ?_)
        go_simp
        refine (OFT.out _).mono ?_
        rintro e V ⟨rfl, hb⟩
        replace HBW := Lib.hid (HBW.out.trans (hb.mono HBW.out.size))
        try replace HX1 := Lib.hid (HX1.out.go hb)
        try replace HY1 := Lib.hid (HY1.out.go hb)
        clear hb
        dsimp only
        refine hK.out _ _ (by first | exact HBW.out | exact (Below.refl _ _).drew) (fun hHeld => ?_)
        clear hK K
        try simp only [Act.put, List.setIfInBounds_toArray, List.set_cons_zero, List.set_cons_succ]
        refine one_to (i := 6) (l' := #[true, true, true, true, true, true, true, false]) rfl (by kernel_rfl) (by kernel_rfl) (fun K hK => ?_)
        obtain ⟨u0, u1, u2, u3, uf, uz⟩ := row4c HX1.out
        have g0 := uf 0
        have g1 := uf 1
        have g2 := uf 2
        have g3 := uf 3
        clear uf uz
        go_simp
        clear u0 u1 u2 u3 g0 g1 g2 g3
        replace HX1 := Lib.hid (show TB 31 ((((V.setCell ⟨xb, 0, none⟩ (.int .i64 x.h)).setCell ⟨xb, 1, none⟩ (.int .i64 x.k)).setCell ⟨xb, 2, none⟩ (.int .i64 x.d)).setCell ⟨xb, 3, none⟩ (.int .i64 x.l)) xb x from put4c _ _ _ _ HX1.out)
        replace HY1 := Lib.hid (show TB 31 ((((V.setCell ⟨xb, 0, none⟩ (.int .i64 x.h)).setCell ⟨xb, 1, none⟩ (.int .i64 x.k)).setCell ⟨xb, 2, none⟩ (.int .i64 x.d)).setCell ⟨xb, 3, none⟩ (.int .i64 x.l)) yb _ from HY1.out.other4 HNE.out.symm _ _ _ _)
        replace HBW := Lib.hid (show Below W6.heap.size W6 ((((V.setCell ⟨xb, 0, none⟩ (.int .i64 x.h)).setCell ⟨xb, 1, none⟩ (.int .i64 x.k)).setCell ⟨xb, 2, none⟩ (.int .i64 x.d)).setCell ⟨xb, 3, none⟩ (.int .i64 x.l)) from below_put4 _ _ _ _ HBW.out HXL.out)
        generalize ((((V.setCell ⟨xb, 0, none⟩ (.int .i64 x.h)).setCell ⟨xb, 1, none⟩ (.int .i64 x.k)).setCell ⟨xb, 2, none⟩ (.int .i64 x.d)).setCell ⟨xb, 3, none⟩ (.int .i64 x.l)) = V at *
        refine hK.out _ _ (by first | exact HBW.out | exact (Below.refl _ _).drew) (fun hHeld => ?_)
        clear hK K
        try simp only [Act.put, List.setIfInBounds_toArray, List.set_cons_zero, List.set_cons_succ]
        refine one_to (i := 7) (l' := #[true, true, true, true, true, true, true, true]) rfl (by kernel_rfl) (by kernel_rfl) (fun K hK => ?_)
        obtain ⟨u0, u1, u2, u3, uf, uz⟩ := row4c HY1.out
        have g0 := uf 0
        have g1 := uf 1
        have g2 := uf 2
        have g3 := uf 3
        clear uf uz
        go_simp
        clear u0 u1 u2 u3 g0 g1 g2 g3
        replace HY1 := Lib.hid (show TB 31 ((((V.setCell ⟨yb, 0, none⟩ (.int .i64 x.h)).setCell ⟨yb, 1, none⟩ (.int .i64 x.k)).setCell ⟨yb, 2, none⟩ (.int .i64 x.l)).setCell ⟨yb, 3, none⟩ (.int .i64 x.d)) yb ⟨x.h, x.k, x.l, x.d⟩ from put4c _ _ _ _ HY1.out)
        replace HX1 := Lib.hid (show TB 31 ((((V.setCell ⟨yb, 0, none⟩ (.int .i64 x.h)).setCell ⟨yb, 1, none⟩ (.int .i64 x.k)).setCell ⟨yb, 2, none⟩ (.int .i64 x.l)).setCell ⟨yb, 3, none⟩ (.int .i64 x.d)) xb _ from HX1.out.other4 HNE.out _ _ _ _)
        replace HBW := Lib.hid (show Below W6.heap.size W6 ((((V.setCell ⟨yb, 0, none⟩ (.int .i64 x.h)).setCell ⟨yb, 1, none⟩ (.int .i64 x.k)).setCell ⟨yb, 2, none⟩ (.int .i64 x.l)).setCell ⟨yb, 3, none⟩ (.int .i64 x.d)) from below_put4 _ _ _ _ HBW.out HYL.out)
        generalize ((((V.setCell ⟨yb, 0, none⟩ (.int .i64 x.h)).setCell ⟨yb, 1, none⟩ (.int .i64 x.k)).setCell ⟨yb, 2, none⟩ (.int .i64 x.l)).setCell ⟨yb, 3, none⟩ (.int .i64 x.d)) = V at *
        refine hK.out _ _ (by first | exact HBW.out | exact (Below.refl _ _).drew) (fun hHeld => ?_)
        clear hK K
        try simp only [Act.put, List.setIfInBounds_toArray, List.set_cons_zero, List.set_cons_succ]
        refine wpAnyH_done (by kernel_rfl) ?_ _
        refine NoPanic.normal ?_
        clear hHeld
        go_wp2_with fail
        go_meet
        exact ⟨xb, yb, rfl, rfl, HX1.out, HY1.out, HBW.out⟩
    · skip
      go_simp
      have HY1 := Lib.hid (show TB 31 (V.alloc (.cells #[.int .i64 0, .int .i64 0, .int .i64 0, .int .i64 0] 31)) V.heap.size ⟨0, 0, 0, 0⟩ from sl_at rfl)
      have HYL := Lib.hid (show W6.heap.size ≤ V.heap.size from HBW.out.size)
      try have HNE := Lib.hid (show xb ≠ V.heap.size from Nat.ne_of_lt HX1.out.lt)
      try replace HX1 := Lib.hid (HX1.out.go (below_new (.cells #[.int .i64 0, .int .i64 0, .int .i64 0, .int .i64 0] 31)))
      replace HBW := Lib.hid (HBW.out.alloc HBW.out.size (.cells #[.int .i64 0, .int .i64 0, .int .i64 0, .int .i64 0] 31))
      generalize V.heap.size = yb at *
      generalize V.alloc (.cells #[.int .i64 0, .int .i64 0, .int .i64 0, .int .i64 0] 31) = V at *
      refine hK.out _ _ (by first | exact HBW.out | exact (Below.refl _ _).drew) (fun hHeld => ?_)
      clear hK K
      try simp only [Act.put, List.setIfInBounds_toArray, List.set_cons_zero, List.set_cons_succ]
      refine two_to (i := 1) (j := 4) (l1 := #[true, true, true, false, false, true, false, false]) (l2 := #[true, false, true, false, true, true, false, false]) rfl rfl (by kernel_rfl) (by kernel_rfl) (by kernel_rfl) (fun K hK => ?_) (fun K hK => ?_)
      · skip
        go_simp
        refine (OF.out _).mono ?_
        rintro e V ⟨rfl, hb⟩
        replace HBW := Lib.hid (HBW.out.trans (hb.mono HBW.out.size))
        try replace HX1 := Lib.hid (HX1.out.go hb)
        try replace HY1 := Lib.hid (HY1.out.go hb)
        clear hb
        dsimp only
        refine hK.out _ _ (by first | exact HBW.out | exact (Below.refl _ _).drew) (fun hHeld => ?_)
        clear hK K
        try simp only [Act.put, List.setIfInBounds_toArray, List.set_cons_zero, List.set_cons_succ]
        refine two_to (i := 3) (j := 4) (l1 := #[true, true, true, true, false, true, false, false]) (l2 := #[true, true, true, false, true, true, false, false]) rfl rfl (by kernel_rfl) (by kernel_rfl) (by kernel_rfl) (fun K hK => ?_) (fun K hK => ?_)
        · skip
          go_simp
          refine (OFT.out _).mono ?_
          rintro e V ⟨rfl, hb⟩
          replace HBW := Lib.hid (HBW.out.trans (hb.mono HBW.out.size))
          try replace HX1 := Lib.hid (HX1.out.go hb)
          try replace HY1 := Lib.hid (HY1.out.go hb)
          clear hb
          dsimp only
          refine hK.out _ _ (by first | exact HBW.out | exact (Below.refl _ _).drew) (fun hHeld => ?_)
          clear hK K
          try simp only [Act.put, List.setIfInBounds_toArray, List.set_cons_zero, List.set_cons_succ]
          refine one_to (i := 4) (l' := #[true, true, true, true, true, true, false, false]) rfl (by kernel_rfl) (by kernel_rfl) (fun K hK => ?_)
          go_simp
          have HX1 := Lib.hid (show TB 31 (V.alloc (.cells #[.int .i64 0, .int .i64 0, .int .i64 0, .int .i64 0] 31)) V.heap.size ⟨0, 0, 0, 0⟩ from sl_at rfl)
          have HXL := Lib.hid (show W6.heap.size ≤ V.heap.size from HBW.out.size)
          try have HNE := Lib.hid (show V.heap.size ≠ yb from Nat.ne_of_gt HY1.out.lt)
          try replace HY1 := Lib.hid (HY1.out.go (below_new (.cells #[.int .i64 0, .int .i64 0, .int .i64 0, .int .i64 0] 31)))
          replace HBW := Lib.hid (HBW.out.alloc HBW.out.size (.cells #[.int .i64 0, .int .i64 0, .int .i64 0, .int .i64 0] 31))
          generalize V.heap.size = xb at *
          generalize V.alloc (.cells #[.int .i64 0, .int .i64 0, .int .i64 0, .int .i64 0] 31) = V at *
          refine hK.out _ _ (by first | exact HBW.out | exact (Below.refl _ _).drew) (fun hHeld => ?_)
          clear hK K
          try simp only [Act.put, List.setIfInBounds_toArray, List.set_cons_zero, List.set_cons_succ]
          refine one_to (i := 6) (l' := #[true, true, true, true, true, true, true, false]) rfl (by kernel_rfl) (by kernel_rfl) (fun K hK => ?_)
          obtain ⟨u0, u1, u2, u3, uf, uz⟩ := row4c HX1.out
          have g0 := uf 0
          have g1 := uf 1
          have g2 := uf 2
          have g3 := uf 3
          clear uf uz
          go_simp
          clear u0 u1 u2 u3 g0 g1 g2 g3
          replace HX1 := Lib.hid (show TB 31 ((((V.setCell ⟨xb, 0, none⟩ (.int .i64 x.h)).setCell ⟨xb, 1, none⟩ (.int .i64 x.k)).setCell ⟨xb, 2, none⟩ (.int .i64 x.d)).setCell ⟨xb, 3, none⟩ (.int .i64 x.l)) xb x from put4c _ _ _ _ HX1.out)
          replace HY1 := Lib.hid (show TB 31 ((((V.setCell ⟨xb, 0, none⟩ (.int .i64 x.h)).setCell ⟨xb, 1, none⟩ (.int .i64 x.k)).setCell ⟨xb, 2, none⟩ (.int .i64 x.d)).setCell ⟨xb, 3, none⟩ (.int .i64 x.l)) yb _ from HY1.out.other4 HNE.out.symm _ _ _ _)
          replace HBW := Lib.hid (show Below W6.heap.size W6 ((((V.setCell ⟨xb, 0, none⟩ (.int .i64 x.h)).setCell ⟨xb, 1, none⟩ (.int .i64 x.k)).setCell ⟨xb, 2, none⟩ (.int .i64 x.d)).setCell ⟨xb, 3, none⟩ (.int .i64 x.l)) from below_put4 _ _ _ _ HBW.out HXL.out)
          generalize ((((V.setCell ⟨xb, 0, none⟩ (.int .i64 x.h)).setCell ⟨xb, 1, none⟩ (.int .i64 x.k)).setCell ⟨xb, 2, none⟩ (.int .i64 x.d)).setCell ⟨xb, 3, none⟩ (.int .i64 x.l)) = V at *
          refine hK.out _ _ (by first | exact HBW.out | exact (Below.refl _ _).drew) (fun hHeld => ?_)
          clear hK K
          try simp only [Act.put, List.setIfInBounds_toArray, List.set_cons_zero, List.set_cons_succ]
          refine one_to (i := 7) (l' := #[true, true, true, true, true, true, true, true]) rfl (by kernel_rfl) (by kernel_rfl) (fun K hK => ?_)
          obtain ⟨u0, u1, u2, u3, uf, uz⟩ := row4c HY1.out
          have g0 := uf 0
          have g1 := uf 1
          have g2 := uf 2
          have g3 := uf 3
          clear uf uz
          go_simp
          clear u0 u1 u2 u3 g0 g1 g2 g3
          replace HY1 := Lib.hid (show TB 31 ((((V.setCell ⟨yb, 0, none⟩ (.int .i64 x.h)).setCell ⟨yb, 1, none⟩ (.int .i64 x.k)).setCell ⟨yb, 2, none⟩ (.int .i64 x.l)).setCell ⟨yb, 3, none⟩ (.int .i64 x.d)) yb ⟨x.h, x.k, x.l, x.d⟩ from put4c _ _ _ _ HY1.out)
          replace HX1 := Lib.hid (show TB 31 ((((V.setCell ⟨yb, 0, none⟩ (.int .i64 x.h)).setCell ⟨yb, 1, none⟩ (.int .i64 x.k)).setCell ⟨yb, 2, none⟩ (.int .i64 x.l)).setCell ⟨yb, 3, none⟩ (.int .i64 x.d)) xb _ from HX1.out.other4 HNE.out _ _ _ _)
          replace HBW := Lib.hid (show Below W6.heap.size W6 ((((V.setCell ⟨yb, 0, none⟩ (.int .i64 x.h)).setCell ⟨yb, 1, none⟩ (.int .i64 x.k)).setCell ⟨yb, 2, none⟩ (.int .i64 x.l)).setCell ⟨yb, 3, none⟩ (.int .i64 x.d)) from below_put4 _ _ _ _ HBW.out HYL.out)
          generalize ((((V.setCell ⟨yb, 0, none⟩ (.int .i64 x.h)).setCell ⟨yb, 1, none⟩ (.int .i64 x.k)).setCell ⟨yb, 2, none⟩ (.int .i64 x.l)).setCell ⟨yb, 3, none⟩ (.int .i64 x.d)) = V at *
          refine hK.out _ _ (by first | exact HBW.out | exact (Below.refl _ _).drew) (fun hHeld => ?_)
          clear hK K
          try simp only [Act.put, List.setIfInBounds_toArray, List.set_cons_zero, List.set_cons_succ]
          refine wpAnyH_done (by kernel_rfl) ?_ _
          refine NoPanic.normal ?_
          clear hHeld
          go_wp2_with fail
          go_meet
          exact ⟨xb, yb, rfl, rfl, HX1.out, HY1.out, HBW.out⟩
        · skip
          go_simp
          have HX1 := Lib.hid (show TB 31 (V.alloc (.cells #[.int .i64 0, .int .i64 0, .int .i64 0, .int .i64 0] 31)) V.heap.size ⟨0, 0, 0, 0⟩ from sl_at rfl)
          have HXL := Lib.hid (show W6.heap.size ≤ V.heap.size from HBW.out.size)
          try have HNE := Lib.hid (show V.heap.size ≠ yb from Nat.ne_of_gt HY1.out.lt)
          try replace HY1 := Lib.hid (HY1.out.go (below_new (.cells #[.int .i64 0, .int .i64 0, .int .i64 0, .int .i64 0] 31)))
          replace HBW := Lib.hid (HBW.out.alloc HBW.out.size (.cells #[.int .i64 0, .int .i64 0, .int .i64 0, .int .i64 0] 31))
          generalize V.heap.size = xb at *
          generalize V.alloc (.cells #[.int .i64 0, .int .i64 0, .int .i64 0, .int .i64 0] 31) = V at *
          refine hK.out _ _ (by first | exact HBW.out | exact (Below.refl _ _).drew) (fun hHeld => ?_)
          clear hK K
          try simp only [Act.put, List.setIfInBounds_toArray, List.set_cons_zero, List.set_cons_succ]
          refine one_to (i := 3) (l' := #[true, true, true, true, true, true, false, false]) rfl (by kernel_rfl) (by kernel_rfl) (fun K hK => ?_)
          go_simp
          refine (OFT.out _).mono ?_
          rintro e V ⟨rfl, hb⟩
          replace HBW := Lib.hid (HBW.out.trans (hb.mono HBW.out.size))
          try replace HX1 := Lib.hid (HX1.out.go hb)
          try replace HY1 := Lib.hid (HY1.out.go hb)
          clear hb
          dsimp only
          refine hK.out _ _ (by first | exact HBW.out | exact (Below.refl _ _).drew) (fun hHeld => ?_)
          clear hK K
          try simp only [Act.put, List.setIfInBounds_toArray, List.set_cons_zero, List.set_cons_succ]
          refine one_to (i := 6) (l' := #[true, true, true, true, true, true, true, false]) rfl (by kernel_rfl) (by kernel_rfl) (fun K hK => ?_)
          obtain ⟨u0, u1, u2, u3, uf, uz⟩ := row4c HX1.out
          have g0 := uf 0
          have g1 := uf 1
          have g2 := uf 2
          have g3 := uf 3
          clear uf uz
          go_simp
          clear u0 u1 u2 u3 g0 g1 g2 g3
          replace HX1 := Lib.hid (show TB 31 ((((V.setCell ⟨xb, 0, none⟩ (.int .i64 x.h)).setCell ⟨xb, 1, none⟩ (.int .i64 x.k)).setCell ⟨xb, 2, none⟩ (.int .i64 x.d)).setCell ⟨xb, 3, none⟩ (.int .i64 x.l)) xb x from put4c _ _ _ _ HX1.out)
          replace HY1 := Lib.hid (show TB 31 ((((V.setCell ⟨xb, 0, none⟩ (.int .i64 x.h)).setCell ⟨xb, 1, none⟩ (.int .i64 x.k)).setCell ⟨xb, 2, none⟩ (.int .i64 x.d)).setCell ⟨xb, 3, none⟩ (.int .i64 x.l)) yb _ from HY1.out.other4 HNE.out.symm _ _ _ _)
          replace HBW := Lib.hid (show Below W6.heap.size W6 ((((V.setCell ⟨xb, 0, none⟩ (.int .i64 x.h)).setCell ⟨xb, 1, none⟩ (.int .i64 x.k)).setCell ⟨xb, 2, none⟩ (.int .i64 x.d)).setCell ⟨xb, 3, none⟩ (.int .i64 x.l)) from below_put4 _ _ _ _ HBW.out HXL.out)
          generalize ((((V.setCell ⟨xb, 0, none⟩ (.int .i64 x.h)).setCell ⟨xb, 1, none⟩ (.int .i64 x.k)).setCell ⟨xb, 2, none⟩ (.int .i64 x.d)).setCell ⟨xb, 3, none⟩ (.int .i64 x.l)) = V at *
          refine hK.out _ _ (by first | exact HBW.out | exact (Below.refl _ _).drew) (fun hHeld => ?_)
          clear hK K
          try simp only [Act.put, List.setIfInBounds_toArray, List.set_cons_zero, List.set_cons_succ]
          refine one_to (i := 7) (l' := #[true, true, true, true, true, true, true, true]) rfl (by kernel_rfl) (by kernel_rfl) (fun K hK => ?_)
          obtain ⟨u0, u1, u2, u3, uf, uz⟩ := row4c HY1.out
          have g0 := uf 0
          have g1 := uf 1
          have g2 := uf 2
          have g3 := uf 3
          clear uf uz
          go_simp
          clear u0 u1 u2 u3 g0 g1 g2 g3
          replace HY1 := Lib.hid (show TB 31 ((((V.setCell ⟨yb, 0, none⟩ (.int .i64 x.h)).setCell ⟨yb, 1, none⟩ (.int .i64 x.k)).setCell ⟨yb, 2, none⟩ (.int .i64 x.l)).setCell ⟨yb, 3, none⟩ (.int .i64 x.d)) yb ⟨x.h, x.k, x.l, x.d⟩ from put4c _ _ _ _ HY1.out)
          replace HX1 := Lib.hid (show TB 31 ((((V.setCell ⟨yb, 0, none⟩ (.int .i64 x.h)).setCell ⟨yb, 1, none⟩ (.int .i64 x.k)).setCell ⟨yb, 2, none⟩ (.int .i64 x.l)).setCell ⟨yb, 3, none⟩ (.int .i64 x.d)) xb _ from HX1.out.other4 HNE.out _ _ _ _)
          replace HBW := Lib.hid (show Below W6.heap.size W6 ((((V.setCell ⟨yb, 0, none⟩ (.int .i64 x.h)).setCell ⟨yb, 1, none⟩ (.int .i64 x.k)).setCell ⟨yb, 2, none⟩ (.int .i64 x.l)).setCell ⟨yb, 3, none⟩ (.int .i64 x.d)) from below_put4 _ _ _ _ HBW.out HYL.out)
          generalize ((((V.setCell ⟨yb, 0, none⟩ (.int .i64 x.h)).setCell ⟨yb, 1, none⟩ (.int .i64 x.k)).setCell ⟨yb, 2, none⟩ (.int .i64 x.l)).setCell ⟨yb, 3, none⟩ (.int .i64 x.d)) = V at *
          refine hK.out _ _ (by first | exact HBW.out | exact (Below.refl _ _).drew) (fun hHeld => ?_)
          clear hK K
          try simp only [Act.put, List.setIfInBounds_toArray, List.set_cons_zero, List.set_cons_succ]
          refine wpAnyH_done (by kernel_rfl) ?_ _
          refine NoPanic.normal ?_
          clear hHeld
          go_wp2_with fail
          go_meet
          exact ⟨xb, yb, rfl, rfl, HX1.out, HY1.out, HBW.out⟩
      · skip
        go_simp
        have HX1 := Lib.hid (show TB 31 (V.alloc (.cells #[.int .i64 0, .int .i64 0, .int .i64 0, .int .i64 0] 31)) V.heap.size ⟨0, 0, 0, 0⟩ from sl_at rfl)
        have HXL := Lib.hid (show W6.heap.size ≤ V.heap.size from HBW.out.size)
        try have HNE := Lib.hid (show V.heap.size ≠ yb from Nat.ne_of_gt HY1.out.lt)
        try replace HY1 := Lib.hid (HY1.out.go (below_new (.cells #[.int .i64 0, .int .i64 0, .int .i64 0, .int .i64 0] 31)))
        replace HBW := Lib.hid (HBW.out.alloc HBW.out.size (.cells #[.int .i64 0, .int .i64 0, .int .i64 0, .int .i64 0] 31))
        generalize V.heap.size = xb at *
        generalize V.alloc (.cells #[.int .i64 0, .int .i64 0, .int .i64 0, .int .i64 0] 31) = V at *
        refine hK.out _ _ (by first | exact HBW.out | exact (Below.refl _ _).drew) (fun hHeld => ?_)
        clear hK K
        try simp only [Act.put, List.setIfInBounds_toArray, List.set_cons_zero, List.set_cons_succ]
        refine one_to (i := 1) (l' := #[true, true, true, false, true, true, false, false]) rfl (by kernel_rfl) (by kernel_rfl) (fun K hK => ?_)
        go_simp
        refine (OF.out _).mono ?_
        rintro e V ⟨rfl, hb⟩
        replace HBW := Lib.hid (HBW.out.trans (hb.mono HBW.out.size))
        try replace HX1 := Lib.hid (HX1.out.go hb)
        try replace HY1 := Lib.hid (HY1.out.go hb)
        clear hb
        dsimp only
        refine hK.out _ _ (by first | exact HBW.out | exact (Below.refl _ _).drew) (fun hHeld => ?_)
        clear hK K
        try simp only [Act.put, List.setIfInBounds_toArray, List.set_cons_zero, List.set_cons_succ]
        refine one_to (i := 3) (l' := #[true, true, true, true, true, true, false, false]) rfl (by kernel_rfl) (by kernel_rfl) (fun K hK => ?_)
        go_simp
        refine (OFT.out _).mono ?_
        rintro e V ⟨rfl, hb⟩
        replace HBW := Lib.hid (HBW.out.trans (hb.mono HBW.out.size))
        try replace HX1 := Lib.hid (HX1.out.go hb)
        try replace HY1 := Lib.hid (HY1.out.go hb)
        clear hb
        dsimp only
        refine hK.out _ _ (by first | exact HBW.out | exact (Below.refl _ _).drew) (fun hHeld => ?_)
        clear hK K
        try simp only [Act.put, List.setIfInBounds_toArray, List.set_cons_zero, List.set_cons_succ]
        refine one_to (i := 6) (l' := #[true, true, true, true, true, true, true, false]) rfl (by kernel_rfl) (by kernel_rfl) (fun K hK => ?_)
        obtain ⟨u0, u1, u2, u3, uf, uz⟩ := row4c HX1.out
        have g0 := uf 0
        have g1 := uf 1
        have g2 := uf 2
        have g3 := uf 3
        clear uf uz
        go_simp
        clear u0 u1 u2 u3 g0 g1 g2 g3
        replace HX1 := Lib.hid (show TB 31 ((((V.setCell ⟨xb, 0, none⟩ (.int .i64 x.h)).setCell ⟨xb, 1, none⟩ (.int .i64 x.k)).setCell ⟨xb, 2, none⟩ (.int .i64 x.d)).setCell ⟨xb, 3, none⟩ (.int .i64 x.l)) xb x from put4c _ _ _ _ HX1.out)
        replace HY1 := Lib.hid (show TB 31 ((((V.setCell ⟨xb, 0, none⟩ (.int .i64 x.h)).setCell ⟨xb, 1, none⟩ (.int .i64 x.k)).setCell ⟨xb, 2, none⟩ (.int .i64 x.d)).setCell ⟨xb, 3, none⟩ (.int .i64 x.l)) yb _ from HY1.out.other4 HNE.out.symm _ _ _ _)
        replace HBW := Lib.hid (show Below W6.heap.size W6 ((((V.setCell ⟨xb, 0, none⟩ (.int .i64 x.h)).setCell ⟨xb, 1, none⟩ (.int .i64 x.k)).setCell ⟨xb, 2, none⟩ (.int .i64 x.d)).setCell ⟨xb, 3, none⟩ (.int .i64 x.l)) from below_put4 _ _ _ _ HBW.out HXL.out)
        generalize ((((V.setCell ⟨xb, 0, none⟩ (.int .i64 x.h)).setCell ⟨xb, 1, none⟩ (.int .i64 x.k)).setCell ⟨xb, 2, none⟩ (.int .i64 x.d)).setCell ⟨xb, 3, none⟩ (.int .i64 x.l)) = V at *
        refine hK.out _ _ (by first | exact HBW.out | exact (Below.refl _ _).drew) (fun hHeld => ?_)
        clear hK K
        try simp only [Act.put, List.setIfInBounds_toArray, List.set_cons_zero, List.set_cons_succ]
        refine one_to (i := 7) (l' := #[true, true, true, true, true, true, true, true]) rfl (by kernel_rfl) (by kernel_rfl) (fun K hK => ?_)
        obtain ⟨u0, u1, u2, u3, uf, uz⟩ := row4c HY1.out
        have g0 := uf 0
        have g1 := uf 1
        have g2 := uf 2
        have g3 := uf 3
        clear uf uz
        go_simp
        clear u0 u1 u2 u3 g0 g1 g2 g3
        replace HY1 := Lib.hid (show TB 31 ((((V.setCell ⟨yb, 0, none⟩ (.int .i64 x.h)).setCell ⟨yb, 1, none⟩ (.int .i64 x.k)).setCell ⟨yb, 2, none⟩ (.int .i64 x.l)).setCell ⟨yb, 3, none⟩ (.int .i64 x.d)) yb ⟨x.h, x.k, x.l, x.d⟩ from put4c _ _ _ _ HY1.out)
        replace HX1 := Lib.hid (show TB 31 ((((V.setCell ⟨yb, 0, none⟩ (.int .i64 x.h)).setCell ⟨yb, 1, none⟩ (.int .i64 x.k)).setCell ⟨yb, 2, none⟩ (.int .i64 x.l)).setCell ⟨yb, 3, none⟩ (.int .i64 x.d)) xb _ from HX1.out.other4 HNE.out _ _ _ _)
        replace HBW := Lib.hid (show Below W6.heap.size W6 ((((V.setCell ⟨yb, 0, none⟩ (.int .i64 x.h)).setCell ⟨yb, 1, none⟩ (.int .i64 x.k)).setCell ⟨yb, 2, none⟩ (.int .i64 x.l)).setCell ⟨yb, 3, none⟩ (.int .i64 x.d)) from below_put4 _ _ _ _ HBW.out HYL.out)
        generalize ((((V.setCell ⟨yb, 0, none⟩ (.int .i64 x.h)).setCell ⟨yb, 1, none⟩ (.int .i64 x.k)).setCell ⟨yb, 2, none⟩ (.int .i64 x.l)).setCell ⟨yb, 3, none⟩ (.int .i64 x.d)) = V at *
        refine hK.out _ _ (by first | exact HBW.out | exact (Below.refl _ _).drew) (fun hHeld => ?_)
        clear hK K
        try simp only [Act.put, List.setIfInBounds_toArray, List.set_cons_zero, List.set_cons_succ]
        refine wpAnyH_done (by kernel_rfl) ?_ _
        refine NoPanic.normal ?_
        clear hHeld
        go_wp2_with fail
        go_meet
        exact ⟨xb, yb, rfl, rfl, HX1.out, HY1.out, HBW.out⟩
  case rest =>
    obtain ⟨xb, yb, rfl, rfl, h1, h2, h3⟩ := hcut
    have HQ6 := Lib.hid (HP6.out.go h3)
    replace H0 := Lib.hid (H0.out.go h3)
    obtain ⟨e0, e1, e2, e3, ef, ez⟩ := row4c h1
    obtain ⟨g0, g1, g2, g3, gf, gz⟩ := row4c h2
    have HE := Lib.hid h1
    have HG := Lib.hid h2
    clear h1 h2 h3 ef ez gf gz HP6
    go_wp2_with (refine wpList_pos (by rfl) _ (by rfl) w5.heap.size (turnN P) Z HZ.out (by rfl) HQ6.out ?_)
    refine (IST.out _).mono ?_
    rintro e w7 ⟨rfl, hb⟩
    clear e0 e1 e2 e3 g0 g1 g2 g3
    obtain ⟨e0, e1, e2, e3, ef, ez⟩ := row4c (HE.out.go hb)
    obtain ⟨g0, g1, g2, g3, gf, gz⟩ := row4c (HG.out.go hb)
    replace H0 := Lib.hid (H0.out.go hb)
    clear hb ef ez gf gz HE HG HQ6 IST OFT OF
    dsimp only
    refine list_go (by assumption) ?_
    have q1 : (x.h != x.h) = false := by simp
    have q2 : (x.k != x.k) = false := by simp
    have q3 : (x.d + x.l != x.l + x.d) = false := by simp [Int.add_comm]
    go_upto_region 10 with (fail)
    clear e0 e1 e2 e3 g0 g1 g2 g3 q1 q2 q3 b1 b2 b3 b4 b5 b6 b7 b8
    have hm0 := Int.emod_nonneg a (show (64 : Int) ≠ 0 by omega)
    have hm1 := Int.emod_lt_of_pos a (show (0 : Int) < 64 by omega)
    obtain ⟨s, hs⟩ : ∃ s : Nat, a % 64 = (s : Int) := ⟨(a % 64).toNat, by omega⟩
    have HPK := Lib.hid (fun W => pickN_any a 64 (by omega) (by omega) W)
    rw [hs] at hm0 hm1 HPK
    have hs64 : s < 64 := by omega
    clear hs
    go_wp2_with fail
    refine (HPK.out _).mono ?_
    rintro e w8 ⟨rfl, rfl⟩
    clear HPK
    go_upto_region 11 with (fail)
    refine wp_region_lit ?_
    refine wpList_pos (by rfl) _ (by rfl) w.heap.size P X HX.out (by rfl) H0.out.pos ?_
    have H8L := Lib.hid (show w.heap.size < w7.heap.size from H0.out.pos.lt)
    refine wpList_new X P HX.out (by rfl) (by rfl) ?_
    intro W9 hp9 hb9 hz9
    replace H0 := Lib.hid (H0.out.go hb9)
    have HR := Lib.hid hp9
    obtain ⟨rb, hrb⟩ : ∃ r, w7.heap.size = r := ⟨_, rfl⟩
    rw [hrb] at HR H8L ⊢
    clear hp9 hb9 hz9 hrb
    have HLS := Lib.hid (fun hi => HLE.out s hs64 0 hi)
    obtain ⟨Q, hQ⟩ : ∃ Q, setN (setN P (s * 2) 0) (s * 2 + 1) 0 = Q := ⟨_, rfl⟩
    rw [hQ] at HLS
    have e1 := HR.out.cell (s * 2) (by omega)
    have e2 := HR.out.cell (s * 2 + 1) (by omega)
    have f1 := HR.out.fr (s * 2)
    have f2 := HR.out.fr (s * 2 + 1)
    have HR2 := Lib.hid (show PB ((W9.setCell ⟨rb, s * 2, none⟩ (.int .i64 0)).setCell ⟨rb, s * 2 + 1, none⟩ (.int .i64 0)) rb Q by rw [← hQ]; exact (HR.out.set (s * 2) 0 (by omega)).set (s * 2 + 1) 0 (by omega))
    have H02 := Lib.hid (show LS w ((W9.setCell ⟨rb, s * 2, none⟩ (.int .i64 0)).setCell ⟨rb, s * 2 + 1, none⟩ (.int .i64 0)) P from
      ⟨(H0.out.pos.other (by have := H8L.out; omega) _ _).other (by have := H8L.out; omega) _ _, (H0.out.bel.setCell (p := ⟨rb, s * 2, none⟩) (by have := H8L.out; show w.heap.size ≤ rb; omega) _).setCell (p := ⟨rb, s * 2 + 1, none⟩) (by have := H8L.out; show w.heap.size ≤ rb; omega) _⟩)
    show Exit.then _ _ Exit.normal _ _
    simp only [Act.put, List.setIfInBounds_toArray, List.set_cons_zero, List.set_cons_succ]
    go_upto_region 13 with (fail)
    clear e1 e2 f1 f2 HR H0
    generalize (W9.setCell ⟨rb, s * 2, none⟩ (.int .i64 0)).setCell ⟨rb, s * 2 + 1, none⟩ (.int .i64 0) = V at *
    have ek := H02.out.pos.cell (s * 2) (by omega)
    obtain ⟨k, hk⟩ : ∃ k, P (s * 2) = k := ⟨_, rfl⟩
    rw [hk] at ek
    clear hk hQ
    obtain ⟨Y, hY⟩ : ∃ Y, Y = (pc Q).toArray := ⟨_, rfl⟩
    have HIQ := Lib.hid (fun W => is13_any Q W)
    rw [← hY] at HIQ
    have HY := Lib.hid hY
    clear hY
    go_cut [79] from 66 to 79 (fun v wx => v = .bool false ∧ PB wx rb Q ∧ LS w wx P)
    case first =>
      cases is
      · clear HIQ ek HLS
        go_wp2
        go_meet
        exact ⟨rfl, HR2.out, H02.out⟩
      · by_cases h6 : k = 6
        · subst h6
          clear HIQ HLS
          go_wp2
          go_meet
          exact ⟨rfl, HR2.out, H02.out⟩
        · have hn6 : (k != 6) = true := by simp [h6]
          rw [HLS.out rfl] at HIQ
          go_wp2_with (refine wpList_pos (by rfl) _ (by rfl) rb Q Y HY.out (by rfl) HR2.out ?_)
          refine (HIQ.out _).mono ?_
          rintro e w10 ⟨rfl, hb⟩
          replace HR2 := Lib.hid (HR2.out.go hb)
          replace H02 := Lib.hid (H02.out.go hb)
          clear hb
          dsimp only
          refine list_go (by assumption) ?_
          go_wp2
          go_meet
          exact ⟨rfl, HR2.out, H02.out⟩
    case rest =>
      obtain ⟨rfl, h1, h2⟩ := hcut
      replace HR2 := Lib.hid h1
      replace H02 := Lib.hid h2
      clear h1 h2 HIQ HLS ek HLE
      have hn0 := Int.emod_nonneg b (show (3 : Int) ≠ 0 by omega)
      have hn1 := Int.emod_lt_of_pos b (show (0 : Int) < 3 by omega)
      have HPK := Lib.hid (fun W => pickN_any b 3 (by omega) (by omega) W)
      obtain ⟨u, hu⟩ : ∃ u : Nat, b % 3 = (u : Int) := ⟨(b % 3).toNat, by omega⟩
      rw [hu] at hn0 hn1 HPK
      have hu3 : u < 3 := by omega
      clear hu
      go_wp2_with fail
      refine (HPK.out _).mono ?_
      rintro e w11 ⟨rfl, rfl⟩
      clear HPK
      have hrow : (wc.alloc (.cells #[.int .i64 1, .int .i64 4, .int .i64 5] 22)).heap[wc.heap.size]? = some (.cells #[.int .i64 1, .int .i64 4, .int .i64 5] 22 (0, 0)) := sl_at rfl
      obtain ⟨r0, r1, r2, _, _⟩ := row3 hrow
      obtain ⟨kk, hkk, hcell⟩ : ∃ kk : Int, (kk = 1 ∨ kk = 4 ∨ kk = 5) ∧ (wc.alloc (.cells #[.int .i64 1, .int .i64 4, .int .i64 5] 22)).cell? ⟨wc.heap.size, u, none⟩ = some (.int .i64 kk) := by
        rcases (show u = 0 ∨ u = 1 ∨ u = 2 by omega) with rfl | rfl | rfl
        · exact ⟨1, .inl rfl, r0⟩
        · exact ⟨4, .inr (.inl rfl), r1⟩
        · exact ⟨5, .inr (.inr rfl), r2⟩
      replace HR2 := Lib.hid (HR2.out.go (below_new (.cells #[.int .i64 1, .int .i64 4, .int .i64 5] 22)))
      replace H02 := Lib.hid (H02.out.go (below_new (.cells #[.int .i64 1, .int .i64 4, .int .i64 5] 22)))
      clear hrow r0 r1 r2
      dsimp only
      refine list_go (by assumption) ?_
      generalize wc.alloc (.cells #[.int .i64 1, .int .i64 4, .int .i64 5] 22) = V3 at *
      generalize wc.heap.size = kb at *
      have HF := Lib.hid (cnt_more Q s hs64 kk 0 hkk)
      obtain ⟨R, hR⟩ : ∃ R, setN (setN Q (s * 2) kk) (s * 2 + 1) 0 = R := ⟨_, rfl⟩
      rw [hR] at HF
      obtain ⟨T, hT⟩ : ∃ Y, Y = (pc R).toArray := ⟨_, rfl⟩
      have HIR := Lib.hid (fun W => is13_any R W)
      rw [← hT, HF.out] at HIR
      have e1 := HR2.out.cell (s * 2) (by omega)
      have e2 := HR2.out.cell (s * 2 + 1) (by omega)
      have f1 := HR2.out.fr (s * 2)
      have f2 := HR2.out.fr (s * 2 + 1)
      have HR3 := Lib.hid (show PB ((V3.setCell ⟨rb, s * 2, none⟩ (.int .i64 kk)).setCell ⟨rb, s * 2 + 1, none⟩ (.int .i64 0)) rb R by rw [← hR]; exact (HR2.out.set (s * 2) kk (by omega)).set (s * 2 + 1) 0 (by omega))
      have HB3 := Lib.hid (show Below w.heap.size w ((V3.setCell ⟨rb, s * 2, none⟩ (.int .i64 kk)).setCell ⟨rb, s * 2 + 1, none⟩ (.int .i64 0)) from
        (H02.out.bel.setCell (p := ⟨rb, s * 2, none⟩) (by have := H8L.out; show w.heap.size ≤ rb; omega) _).setCell (p := ⟨rb, s * 2 + 1, none⟩) (by have := H8L.out; show w.heap.size ≤ rb; omega) _)
      have HT := Lib.hid hT
      clear hR hT hkk HF HR2 H02
      go_upto_region 16 with (fail)
      clear e1 e2 f1 f2 hcell
      generalize (V3.setCell ⟨rb, s * 2, none⟩ (.int .i64 kk)).setCell ⟨rb, s * 2 + 1, none⟩ (.int .i64 0) = V4 at *
      go_wp2_with (refine wpList_pos (by rfl) _ (by rfl) rb R T HT.out (by rfl) HR3.out ?_)
      refine (HIR.out _).mono ?_
      rintro e w12 ⟨rfl, hb⟩
      replace HB3 := Lib.hid (HB3.out.trans (hb.mono HB3.out.size))
      clear hb
      dsimp only
      refine list_go (by assumption) ?_
      go_wp2
      go_ret
      exact ⟨rfl, HB3.out⟩
end Go.Proofs.Ytkdhkljnpalajaa
