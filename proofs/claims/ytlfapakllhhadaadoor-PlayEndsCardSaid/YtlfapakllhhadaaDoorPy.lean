/-
  Contract: made.
-/
import Derived.Test.YtlfapakllhhadaaDoorG12
namespace Go.Proofs.YtlfapakllhhadaaDoor
open Go.RowKit Go.Sort
set_option linter.unusedSimpArgs false
set_option linter.unusedVariables false
set_option maxRecDepth 20000

theorem MD.go2 {w W W' : World} {P : Nat → Int} (h : MD w W P) (g : Below (w.heap.size + 2) W W') : MD w W' P :=
  ⟨h.p.below g (by omega), (g.block _ (by omega)).trans h.z, h.b.trans (g.mono (by omega)), Nat.le_trans h.s g.size⟩
theorem Reads.cellM {B : Nat} {w : World} {b off n : Nat} {f : Nat → Value} (h : Reads B w (some ⟨b, off, none⟩) n f) {i : Nat} (hi : i < n) : w.cell? ⟨b, off + i, none⟩ = some (f i) := by
  rcases h with h0 | ⟨b', o', he, _, hc⟩
  · omega
  · injection he with he; injection he with e1 e2; subst e1; subst e2; exact hc i hi
/-- .. with the squares of the mover's pieces -/
structure MO (w W : World) (P : Nat → Int) (D n : Nat) (pL : Option Addr) (g : Nat → Int) : Prop where
  t : MD w W P
  r : Reads D W pL n (fun i => .int .i64 (g i))
  d : D ≤ W.heap.size
theorem MO.go {w W W' : World} {P : Nat → Int} {D n : Nat} {pL : Option Addr} {g : Nat → Int} (h : MO w W P D n pL g) (k : Below W.heap.size W W') : MO w W' P D n pL g := ⟨h.t.go k, h.r.below (k.mono h.d), Nat.le_trans h.d k.size⟩
theorem MO.put {w W : World} {P : Nat → Int} {D n : Nat} {pL : Option Addr} {g : Nat → Int} (h : MO w W P D n pL g) {H : Nat} (h1 : w.heap.size + 2 ≤ H) (h2 : D ≤ H) (x y z : Value) : MO w (((W.setCell ⟨H, 0, none⟩ x).setCell ⟨H, 1, none⟩ y).setCell ⟨H, 2, none⟩ z) P D n pL g :=
  ⟨h.t.go2 (below_put3 x y z (Below.refl _ W) h1), h.r.below (below_put3 x y z (Below.refl _ W) h2), by simp only [World.size_setCell]; exact h.d⟩
set_option maxHeartbeats 4000000 in
set_option maxRecDepth 100000 in
theorem made_any (P : Nat → Int) (a1 a2 a3 : Int) (w : World) :
    Calls Tryd.prog 18 #[.agg (pc P).toArray, .int .i64 a1, .int .i64 a2, .int .i64 a3] w fun e w' => e = .returned (mvV (mdF P a1) (mdT P a2) (mdB P (mdF P a1) (mdT P a2) a3)) ∧ Below w.heap.size w w' := by
  obtain ⟨i0, hi, hz0, hz1, hz2⟩ := info_parts infoInt
  obtain ⟨X, hX⟩ : ∃ X, X = (pc P).toArray := ⟨_, rfl⟩
  have HI := Lib.hid (MD.begin w P X hX)
  rw [← hX]
  clear hX
  have HC := Lib.hid (show ∀ W, MD w W P → W.cell? ⟨w.heap.size, 128, none⟩ = some (.int .i64 (P 128)) from fun W h => h.p.cell 128 (by omega))
  have HOS := Lib.hid (show ∀ j, ownL P (j + 1) = ownL P j ++ if (P (2 * j) != 0) && (P (2 * j + 1) == P 128) then [(j : Int)] else [] from fun _ => rfl)
  go_enter Tryd.func18, Tryd.ntmps18
  go_upto_region 1 with (fail)
  refine forget_B (fun W => MD w W P) HI.out ?_
  clear HI
  intro W hi0
  have HI := Lib.hid hi0
  clear hi0
  go_wp2
  go_loopw [9, 10] (fun v i wr => ∃ j : Nat, j ≤ 64 ∧ i = .int .i64 (j : Int) ∧ MD w wr P ∧ wr.ownsRow (w.heap.size + 2) 3 1 v (ownL P j).length (ivals (ownL P j))) (fun _ i _ => 64 - (intOf i).toNat)
  case atStart => exact ⟨0, Nat.zero_le _, rfl, HI.out, World.ownsRow_nil _ _ _ _⟩
  case round =>
    clear HI
    obtain ⟨j, hj, rfl, h1, hown⟩ := hrel
    have HI := Lib.hid h1
    clear h1
    by_cases hlt : j < 64
    · have hos := HOS.out j
      have hc128 := HC.out _ HI.out
      have c1 := HI.out.p.cell (j * 2) (by omega)
      have c2 := HI.out.p.cell (j * 2 + 1) (by omega)
      have hll := ownL_len P j
      rw [Nat.mul_comm 2 j] at hos
      obtain ⟨kk, hkk⟩ : ∃ x, P (j * 2) = x := ⟨_, rfl⟩
      obtain ⟨dd, hdd⟩ : ∃ x, P (j * 2 + 1) = x := ⟨_, rfl⟩
      obtain ⟨sd, hsd⟩ : ∃ x, P 128 = x := ⟨_, rfl⟩
      rw [hkk, hdd, hsd] at hos
      rw [hkk] at c1
      rw [hdd] at c2
      rw [hsd] at hc128
      obtain ⟨L, hL⟩ : ∃ L, ownL P j = L := ⟨_, rfl⟩
      rw [hL] at hown hos hll
      have HOW := Lib.hid hown
      clear hown hL hkk hdd hsd
      have j0 : (0 : Int) ≤ (j : Int) := by omega
      have j1 : (j : Int) < 64 := by omega
      go_upto_region 5 with (fail)
      replace c1 := cell_regrown c1
      replace c2 := cell_regrown c2
      replace hc128 := cell_regrown hc128
      by_cases hk : kk = 0
      · subst hk
        have HS2 := Lib.hid (show ownL P (j + 1) = L by rw [hos]; simp)
        clear hos
        refine wp_region_quiet_below (by kernel_rfl) (by kernel_rfl) ?_
        repeat (first | go_big_quiet_step (fail) | quiet_step (fail))
        refine wpQuiet_nil ?_
        rintro W4 ⟨q, rfl⟩
        replace HI := Lib.hid (HI.out.go (below_regrown wr q.d q.os))
        replace HOW := Lib.hid (owns_go HOW.out (below_regrown wr q.d q.os))
        clear c1 c2 hc128
        generalize grow (redrawn wr q.d) q.os = W4 at HI HOW ⊢
        go_wp2
        go_roundw
        case rel => exact ⟨j + 1, by omega, by go_num, HI.out, by rw [HS2.out]; exact HOW.out⟩
        case measure => simp [intOf]; omega
      have hk2 : (kk != 0) = true := by simp [hk]
      by_cases hd : dd = sd
      case neg =>
        have hd2 : (dd == sd) = false := by simp [hd]
        have HS2 := Lib.hid (show ownL P (j + 1) = L by rw [hos, hd2]; simp)
        clear hos hd
        refine wp_region_quiet_below (by kernel_rfl) (by kernel_rfl) ?_
        repeat (first | go_big_quiet_step (fail) | quiet_step (fail))
        refine wpQuiet_nil ?_
        rintro W4 ⟨q, rfl⟩
        replace HI := Lib.hid (HI.out.go (below_regrown wr q.d q.os))
        replace HOW := Lib.hid (owns_go HOW.out (below_regrown wr q.d q.os))
        clear c1 c2 hc128
        generalize grow (redrawn wr q.d) q.os = W4 at HI HOW ⊢
        go_wp2
        go_roundw
        case rel => exact ⟨j + 1, by omega, by go_num, HI.out, by rw [HS2.out]; exact HOW.out⟩
        case measure => simp [intOf]; omega
      case pos =>
        subst hd
        have HS2 := Lib.hid (show ownL P (j + 1) = L ++ [(j : Int)] by rw [hos, hk2]; simp)
        clear hos
        refine wp_region_quiet_below (by kernel_rfl) (by kernel_rfl) ?_
        repeat (first | go_big_quiet_step (fail) | quiet_step (fail))
        refine wpQuiet_nil ?_
        rintro W4 ⟨q, rfl⟩
        replace HI := Lib.hid (HI.out.go (below_regrown wr q.d q.os))
        replace HOW := Lib.hid (owns_go HOW.out (below_regrown wr q.d q.os))
        clear c1 c2 hc128
        generalize grow (redrawn wr q.d) q.os = W4 at HI HOW ⊢
        have hm1 : L.length + 1 ≤ maxLen := by unfold maxLen; omega
        go_wp2_with (at_builtin; refine wpList_append_lies _ rfl (.tmp 32) (.tmp 34) 32 rfl (w.heap.size + 2) 3 i0 (.int .i64 0) 1 8 Tryd.underlying32 hi hz0 hz1 hz2 rfl (by decide) _ L.length (ivals L) rfl (owns_go HOW.out ((Below.refl _ _).alloc (Nat.le_refl _) _)) ⟨W4.heap.size, 0, none⟩ 1 1 [.int .i64 (j : Int)] rfl rfl (World.news_of_block (heap_alloc_new _ _)) ?c2 (by decide) hm1 (by omega) (by have := HI.out.s; simp; omega) (W4.heap.size + 1) (by simp) ?next)
        case c2 => first | rfl | (intro y hy; simp at hy; subst hy; rfl)
        case next =>
          intro g1 cap1 w4 hown1 hgrow1 hat1 hlt3
          rw [ivals_snoc] at hown1
          have HB4 := Lib.hid (((below_new (w := W4) (.cells #[.int .i64 (j : Int)] 3)).mono HI.out.s).grown hgrow1 (by have := HI.out.s; simp; omega) (fun b e => (HOW.out.lt b e).1))
          replace HI := Lib.hid (HI.out.go2 HB4.out)
          have HO4 := Lib.hid hown1
          clear hgrow1 hown1 hat1 HOW HB4
          go_wp2
          go_roundw
          case rel => exact ⟨j + 1, by omega, by go_num, HI.out, by rw [HS2.out, show (L ++ [(j : Int)]).length = L.length + 1 by simp]; exact HO4.out⟩
          case measure => simp [intOf]; omega
    · obtain rfl : j = 64 := by omega
      obtain ⟨pL, cL, rfl, hr, _, _⟩ := sq_reads (by rw [ivals_range] at hown; exact hown)
      have hll := ownL_len P 64
      have hmem := fun x h => ownL_mem P 64 x h
      obtain ⟨L, hL⟩ : ∃ L, ownL P 64 = L := ⟨_, rfl⟩
      have HFd := Lib.hid (show mdF P a1 = if L.length = 0 then 0 else L.getD (a1 % (L.length : Int)).toNat 0 by rw [← hL]; rfl)
      have HTd := Lib.hid (show mdT P a2 = if L.length = 0 then 0 else a2 % 64 by rw [← hL]; rfl)
      have HBd := Lib.hid (show ∀ f t, mdB P f t a3 = if L.length = 0 then 0 else if P (f.toNat * 2) == 1 && (decide (56 ≤ t) || decide (t < 8)) then 2 + a3 % 4 else 0 from fun f t => by rw [← hL]; rfl)
      rw [hL] at hr hll hmem ⊢
      clear hL hown
      by_cases hl0 : L.length = 0
      · have HF0 := Lib.hid (show mdF P a1 = 0 by rw [HFd.out, if_pos hl0])
        have HT0 := Lib.hid (show mdT P a2 = 0 by rw [HTd.out, if_pos hl0])
        have HB0 := Lib.hid (show mdB P (mdF P a1) (mdT P a2) a3 = 0 by rw [HBd.out, if_pos hl0])
        obtain ⟨z0, z1, z2, zf, zz⟩ := row3 HI.out.z
        rw [hl0]
        go_wp2
        rw [HB0.out, HF0.out, HT0.out]
        refine bodyPost_ret (v := .agg #[.int .i64 0, .int .i64 0, .int .i64 0]) ?_ rfl ⟨rfl, below_put3 _ _ _ HI.out.b (by omega)⟩
        exact results_cell_row (p := 8) (ty := 34) rfl _ _ (w.heap.size + 1) 34 _ (0, 0) _ rfl (put3 _ _ _ HI.out.z) Tryd.underlying34 rfl (by kernel_rfl)
      · obtain ⟨n, hn⟩ : ∃ n, L.length = n := ⟨_, rfl⟩
        obtain ⟨I, hI⟩ : ∃ I : Nat, a1 % (L.length : Int) = I := ⟨(a1 % (L.length : Int)).toNat, by have := Int.emod_nonneg a1 (show (L.length : Int) ≠ 0 by omega); omega⟩
        have hI2 : I < L.length := by have := Int.emod_lt_of_pos a1 (show (0 : Int) < (L.length : Int) by omega); omega
        have hLI : L.getD I 0 = L[I] := by simp [List.getD_eq_getElem?_getD, List.getElem?_eq_getElem hI2]
        obtain ⟨fn, hfn, hff, hfk, hfs⟩ := hmem _ (List.getElem_mem hI2)
        have HF1 := Lib.hid (show mdF P a1 = (fn : Int) by rw [HFd.out, if_neg hl0, hI, Int.toNat_natCast, hLI, hff])
        obtain ⟨tt, htt⟩ : ∃ tt, a2 % 64 = tt := ⟨_, rfl⟩
        have t0 : 0 ≤ tt := by omega
        have t1 : tt < 64 := by omega
        have HT1 := Lib.hid (show mdT P a2 = tt by rw [HTd.out, if_neg hl0, htt])
        obtain ⟨ff, hf2⟩ : ∃ ff : Int, (fn : Int) = ff := ⟨_, rfl⟩
        have HP1 := Lib.hid (show ∀ V, Calls Tryd.prog 48 #[.int .i64 a1, .int .i64 (n : Int)] V fun e V' => e = .returned (.int .i64 (I : Int)) ∧ V = V' from fun V => by have := pickN_any a1 n (by omega) (by omega) V; rw [← hn, hI] at this; rw [← hn]; exact this)
        have HP2 := Lib.hid (show ∀ V, Calls Tryd.prog 48 #[.int .i64 a2, .int .i64 64] V fun e V' => e = .returned (.int .i64 tt) ∧ V = V' from fun V => by have := pickN_any a2 64 (by omega) (by omega) V; rw [htt] at this; exact this)
        have HFF := Lib.hid (show L.getD I 0 = ff by rw [hLI, hff, hf2])
        have HB1 := Lib.hid (show mdB P (mdF P a1) (mdT P a2) a3 = if P (fn * 2) == 1 && (decide (56 ≤ tt) || decide (tt < 8)) then 2 + a3 % 4 else 0 by rw [HBd.out, if_neg hl0, HF1.out, HT1.out, Int.toNat_natCast])
        rw [hf2] at HF1
        rw [hn] at hr hll hl0 hI2 ⊢
        have HLT := Lib.hid hI2
        obtain ⟨lb, lo, rfl⟩ : ∃ lb lo, pL = some ⟨lb, lo, none⟩ := by
          rcases hr with h0 | ⟨b, o, e, _⟩
          · omega
          · exact ⟨b, o, e⟩
        obtain ⟨g, hg⟩ : ∃ g : Nat → Int, (fun i => L.getD i 0) = g := ⟨_, rfl⟩
        have hgi : ∀ i, L.getD i 0 = g i := fun i => congrFun hg i
        rw [hgi] at HFF
        simp only [hgi] at hr
        replace HI := Lib.hid (show MO w wr P wr.heap.size n (some ⟨lb, lo, none⟩) g from ⟨HI.out, hr, Nat.le_refl _⟩)
        obtain ⟨D, hD⟩ : ∃ D, wr.heap.size = D := ⟨_, rfl⟩
        rw [hD] at HI
        clear hr hgi hg hLI hI hmem HFd HTd HBd hff hD
        have n0 : 0 < n := by omega
        have n1 : ((n : Int) == 0) = false := beq_eq_false_iff_ne.2 (by omega)
        have n2 : ¬ (n : Int) = 0 := by omega
        clear hn HC HOS
        go_upto_region 9 with (fail)
        go_cut [11] from 36 to 70 (fun v wx => ∃ H : Nat, v = .pointer (some ⟨H, 0, none⟩) ∧ wx.heap[H]? = some (.cells #[.int .i64 ff, .int .i64 tt, .int .i64 0] 34 (0, 0)) ∧ MO w wx P D n (some ⟨lb, lo, none⟩) g ∧ w.heap.size + 2 ≤ H)
        case first =>
          refine wp_region_noPanic ?_
          refine wp_region_start (n := 12) (l := #[false, false, false, false, false, false, false, false, false, false, false, false]) (S := (fun W => MO w W P D n (some ⟨lb, lo, none⟩) g)) (by kernel_rfl) rfl (by kernel_rfl) (by first | exact HI.out | exact HI.out.go (Below.refl _ _).drew) (fun hHeld => ?_)
          replace HI := Lib.hid (HI.out.go (Below.refl wr.heap.size wr).drew)
          generalize wr.drew = V at hHeld HI ⊢
          refine take_to (i := 0) (d := some 40) (v := ?_) (l' := #[true, false, false, false, false, false, false, false, false, false, false, false]) rfl rfl (by kernel_rfl) (by kernel_rfl) (by kernel_rfl) (by kernel_rfl) (fun _ _ _ h => h) (Or.inl ⟨by rfl, ?_⟩) (by assumption) ?_; rotate_left; · (intro w' hSw; (try dsimp only at hSw); go_simp; (try with_reducible rfl))
          try simp only [Act.put, List.setIfInBounds_toArray, List.set_cons_zero, List.set_cons_succ]
          refine take_to (i := 1) (d := some 41) (v := ?_) (l' := #[true, true, false, false, false, false, false, false, false, false, false, false]) rfl rfl (by kernel_rfl) (by kernel_rfl) (by kernel_rfl) (by kernel_rfl) (fun _ _ _ h => h) (Or.inl ⟨by rfl, ?_⟩) (by assumption) ?_; rotate_left; · (intro w' hSw; (try dsimp only at hSw); go_simp; (try with_reducible rfl))
          try simp only [Act.put, List.setIfInBounds_toArray, List.set_cons_zero, List.set_cons_succ]
          refine take_to (i := 2) (d := some 42) (v := ?_) (l' := #[true, true, true, false, false, false, false, false, false, false, false, false]) rfl rfl (by kernel_rfl) (by kernel_rfl) (by kernel_rfl) (by kernel_rfl) (fun _ _ _ h => h) (Or.inl ⟨by rfl, ?_⟩) (by assumption) ?_; rotate_left; · (intro w' hSw; (try dsimp only at hSw); go_simp; (try with_reducible rfl))
          try simp only [Act.put, List.setIfInBounds_toArray, List.set_cons_zero, List.set_cons_succ]
          refine take_to (i := 3) (d := some 43) (v := ?_) (l' := #[true, true, true, true, false, false, false, false, false, false, false, false]) rfl rfl (by kernel_rfl) (by kernel_rfl) (by kernel_rfl) (by kernel_rfl) (fun _ _ _ h => h) (Or.inl ⟨by rfl, ?_⟩) (by assumption) ?_; rotate_left; · (intro w' hSw; (try dsimp only at hSw); go_simp; (try with_reducible rfl))
          try simp only [Act.put, List.setIfInBounds_toArray, List.set_cons_zero, List.set_cons_succ]
          refine take_to (i := 7) (d := some 47) (v := ?_) (l' := #[true, true, true, true, false, false, false, true, false, false, false, false]) rfl rfl (by kernel_rfl) (by kernel_rfl) (by kernel_rfl) (by kernel_rfl) (fun _ _ _ h => h) (Or.inl ⟨by rfl, ?_⟩) (by assumption) ?_; rotate_left; · (intro w' hSw; (try dsimp only at hSw); go_simp; (try with_reducible rfl))
          try simp only [Act.put, List.setIfInBounds_toArray, List.set_cons_zero, List.set_cons_succ]
          refine two_to (i := 4) (j := 10) (l1 := #[true, true, true, true, true, false, false, true, false, false, false, false]) (l2 := #[true, true, true, true, false, false, false, true, false, false, true, false]) rfl rfl (by kernel_rfl) (by kernel_rfl) (by kernel_rfl) (fun K hK => ?_) (fun K hK => ?_)
          · skip
            go_simp
            refine (HP1.out _).mono ?_
            rintro e V ⟨rfl, rfl⟩
            dsimp only
            refine hK.out _ _ (by first | exact HI.out | exact HI.out.go (Below.refl _ _).drew) (fun hHeld => ?_)
            clear hK K
            try simp only [Act.put, List.setIfInBounds_toArray, List.set_cons_zero, List.set_cons_succ]
            refine take_to (i := 5) (d := some 45) (v := ?_) (l' := #[true, true, true, true, true, true, false, true, false, false, false, false]) rfl rfl (by kernel_rfl) (by kernel_rfl) (by kernel_rfl) (by kernel_rfl) (fun _ _ _ h => h) (Or.inl ⟨by rfl, ?_⟩) (by assumption) ?_; rotate_left; · (intro w' hSw; (try dsimp only at hSw); go_simp; (try with_reducible rfl))
            try simp only [Act.put, List.setIfInBounds_toArray, List.set_cons_zero, List.set_cons_succ]
            refine take_to (i := 6) (d := some 46) (v := (.int .i64 ff)) (l' := #[true, true, true, true, true, true, true, true, false, false, false, false]) rfl rfl (by kernel_rfl) (by kernel_rfl) (by kernel_rfl) (by kernel_rfl) (fun _ _ _ h => h) ?_ (by assumption) ?_
            · refine Or.inl ⟨by rfl, ?_⟩; intro w' hSw; have e := Reads.cellM hSw.r HLT.out; rw [HFF.out] at e; go_simp
            try simp only [Act.put, List.setIfInBounds_toArray, List.set_cons_zero, List.set_cons_succ]
            refine two_to (i := 8) (j := 10) (l1 := #[true, true, true, true, true, true, true, true, true, false, false, false]) (l2 := #[true, true, true, true, true, true, true, true, false, false, true, false]) rfl rfl (by kernel_rfl) (by kernel_rfl) (by kernel_rfl) (fun K hK => ?_) (fun K hK => ?_)
            · skip
              go_simp
              refine (HP2.out _).mono ?_
              rintro e V ⟨rfl, rfl⟩
              dsimp only
              refine hK.out _ _ (by first | exact HI.out | exact HI.out.go (Below.refl _ _).drew) (fun hHeld => ?_)
              clear hK K
              try simp only [Act.put, List.setIfInBounds_toArray, List.set_cons_zero, List.set_cons_succ]
              refine take_to (i := 9) (d := some 49) (v := ?_) (l' := #[true, true, true, true, true, true, true, true, true, true, false, false]) rfl rfl (by kernel_rfl) (by kernel_rfl) (by kernel_rfl) (by kernel_rfl) (fun _ _ _ h => h) (Or.inl ⟨by rfl, ?_⟩) (by assumption) ?_; rotate_left; · (intro w' hSw; (try dsimp only at hSw); go_simp; (try with_reducible rfl))
              try simp only [Act.put, List.setIfInBounds_toArray, List.set_cons_zero, List.set_cons_succ]
              refine one_to (i := 10) (l' := #[true, true, true, true, true, true, true, true, true, true, true, false]) rfl (by kernel_rfl) (by kernel_rfl) (fun K hK => ?_)
              go_simp
              have HZB := Lib.hid (show (V.alloc (.cells #[.int .i64 0, .int .i64 0, .int .i64 0] 34)).heap[V.heap.size]? = some (.cells #[.int .i64 0, .int .i64 0, .int .i64 0] 34 (0, 0)) from sl_at rfl)
              have HHL := Lib.hid (show w.heap.size + 2 ≤ V.heap.size from HI.out.t.s)
              have HHD := Lib.hid (show D ≤ V.heap.size from HI.out.d)
              replace HI := Lib.hid (HI.out.go (below_new (.cells #[.int .i64 0, .int .i64 0, .int .i64 0] 34)))
              generalize V.heap.size = H at HZB HHL HHD ⊢
              generalize V.alloc (.cells #[.int .i64 0, .int .i64 0, .int .i64 0] 34) = V at HZB HI ⊢
              refine hK.out _ _ (by first | exact HI.out | exact HI.out.go (Below.refl _ _).drew) (fun hHeld => ?_)
              clear hK K
              try simp only [Act.put, List.setIfInBounds_toArray, List.set_cons_zero, List.set_cons_succ]
              refine one_to (i := 11) (l' := #[true, true, true, true, true, true, true, true, true, true, true, true]) rfl (by kernel_rfl) (by kernel_rfl) (fun K hK => ?_)
              obtain ⟨z0, z1, z2, zf, zz⟩ := row3 HZB.out
              have HNB := Lib.hid (put3 (.int .i64 ff) (.int .i64 tt) (.int .i64 0) HZB.out)
              have HNI := Lib.hid (HI.out.put HHL.out HHD.out (.int .i64 ff) (.int .i64 tt) (.int .i64 0))
              go_simp
              replace HI := Lib.hid HNI.out
              clear z0 z1 z2 zf zz HNI
              generalize ((V.setCell ⟨H, 0, none⟩ (.int .i64 ff)).setCell ⟨H, 1, none⟩ (.int .i64 tt)).setCell ⟨H, 2, none⟩ (.int .i64 0) = V at HNB HI ⊢
              refine hK.out _ _ (by first | exact HI.out | exact HI.out.go (Below.refl _ _).drew) (fun hHeld => ?_)
              clear hK K
              try simp only [Act.put, List.setIfInBounds_toArray, List.set_cons_zero, List.set_cons_succ]
              refine wpAnyH_done (by kernel_rfl) ?_ _
              refine NoPanic.normal ?_
              clear hHeld
              go_wp2_with fail
              go_meet
              exact ⟨H, rfl, HNB.out, HI.out, HHL.out⟩
            · skip
              go_simp
              have HZB := Lib.hid (show (V.alloc (.cells #[.int .i64 0, .int .i64 0, .int .i64 0] 34)).heap[V.heap.size]? = some (.cells #[.int .i64 0, .int .i64 0, .int .i64 0] 34 (0, 0)) from sl_at rfl)
              have HHL := Lib.hid (show w.heap.size + 2 ≤ V.heap.size from HI.out.t.s)
              have HHD := Lib.hid (show D ≤ V.heap.size from HI.out.d)
              replace HI := Lib.hid (HI.out.go (below_new (.cells #[.int .i64 0, .int .i64 0, .int .i64 0] 34)))
              generalize V.heap.size = H at HZB HHL HHD ⊢
              generalize V.alloc (.cells #[.int .i64 0, .int .i64 0, .int .i64 0] 34) = V at HZB HI ⊢
              refine hK.out _ _ (by first | exact HI.out | exact HI.out.go (Below.refl _ _).drew) (fun hHeld => ?_)
              clear hK K
              try simp only [Act.put, List.setIfInBounds_toArray, List.set_cons_zero, List.set_cons_succ]
              refine one_to (i := 8) (l' := #[true, true, true, true, true, true, true, true, true, false, true, false]) rfl (by kernel_rfl) (by kernel_rfl) (fun K hK => ?_)
              go_simp
              refine (HP2.out _).mono ?_
              rintro e V ⟨rfl, rfl⟩
              dsimp only
              refine hK.out _ _ (by first | exact HI.out | exact HI.out.go (Below.refl _ _).drew) (fun hHeld => ?_)
              clear hK K
              try simp only [Act.put, List.setIfInBounds_toArray, List.set_cons_zero, List.set_cons_succ]
              refine take_to (i := 9) (d := some 49) (v := ?_) (l' := #[true, true, true, true, true, true, true, true, true, true, true, false]) rfl rfl (by kernel_rfl) (by kernel_rfl) (by kernel_rfl) (by kernel_rfl) (fun _ _ _ h => h) (Or.inl ⟨by rfl, ?_⟩) (by assumption) ?_; rotate_left; · (intro w' hSw; (try dsimp only at hSw); go_simp; (try with_reducible rfl))
              try simp only [Act.put, List.setIfInBounds_toArray, List.set_cons_zero, List.set_cons_succ]
              refine one_to (i := 11) (l' := #[true, true, true, true, true, true, true, true, true, true, true, true]) rfl (by kernel_rfl) (by kernel_rfl) (fun K hK => ?_)
              obtain ⟨z0, z1, z2, zf, zz⟩ := row3 HZB.out
              have HNB := Lib.hid (put3 (.int .i64 ff) (.int .i64 tt) (.int .i64 0) HZB.out)
              have HNI := Lib.hid (HI.out.put HHL.out HHD.out (.int .i64 ff) (.int .i64 tt) (.int .i64 0))
              go_simp
              replace HI := Lib.hid HNI.out
              clear z0 z1 z2 zf zz HNI
              generalize ((V.setCell ⟨H, 0, none⟩ (.int .i64 ff)).setCell ⟨H, 1, none⟩ (.int .i64 tt)).setCell ⟨H, 2, none⟩ (.int .i64 0) = V at HNB HI ⊢
              refine hK.out _ _ (by first | exact HI.out | exact HI.out.go (Below.refl _ _).drew) (fun hHeld => ?_)
              clear hK K
              try simp only [Act.put, List.setIfInBounds_toArray, List.set_cons_zero, List.set_cons_succ]
              refine wpAnyH_done (by kernel_rfl) ?_ _
              refine NoPanic.normal ?_
              clear hHeld
              go_wp2_with fail
              go_meet
              exact ⟨H, rfl, HNB.out, HI.out, HHL.out⟩
          · skip
            go_simp
            have HZB := Lib.hid (show (V.alloc (.cells #[.int .i64 0, .int .i64 0, .int .i64 0] 34)).heap[V.heap.size]? = some (.cells #[.int .i64 0, .int .i64 0, .int .i64 0] 34 (0, 0)) from sl_at rfl)
            have HHL := Lib.hid (show w.heap.size + 2 ≤ V.heap.size from HI.out.t.s)
            have HHD := Lib.hid (show D ≤ V.heap.size from HI.out.d)
            replace HI := Lib.hid (HI.out.go (below_new (.cells #[.int .i64 0, .int .i64 0, .int .i64 0] 34)))
            generalize V.heap.size = H at HZB HHL HHD ⊢
            generalize V.alloc (.cells #[.int .i64 0, .int .i64 0, .int .i64 0] 34) = V at HZB HI ⊢
            refine hK.out _ _ (by first | exact HI.out | exact HI.out.go (Below.refl _ _).drew) (fun hHeld => ?_)
            clear hK K
            try simp only [Act.put, List.setIfInBounds_toArray, List.set_cons_zero, List.set_cons_succ]
            refine one_to (i := 4) (l' := #[true, true, true, true, true, false, false, true, false, false, true, false]) rfl (by kernel_rfl) (by kernel_rfl) (fun K hK => ?_)
            go_simp
            refine (HP1.out _).mono ?_
            rintro e V ⟨rfl, rfl⟩
            dsimp only
            refine hK.out _ _ (by first | exact HI.out | exact HI.out.go (Below.refl _ _).drew) (fun hHeld => ?_)
            clear hK K
            try simp only [Act.put, List.setIfInBounds_toArray, List.set_cons_zero, List.set_cons_succ]
            refine take_to (i := 5) (d := some 45) (v := ?_) (l' := #[true, true, true, true, true, true, false, true, false, false, true, false]) rfl rfl (by kernel_rfl) (by kernel_rfl) (by kernel_rfl) (by kernel_rfl) (fun _ _ _ h => h) (Or.inl ⟨by rfl, ?_⟩) (by assumption) ?_; rotate_left; · (intro w' hSw; (try dsimp only at hSw); go_simp; (try with_reducible rfl))
            try simp only [Act.put, List.setIfInBounds_toArray, List.set_cons_zero, List.set_cons_succ]
            refine take_to (i := 6) (d := some 46) (v := (.int .i64 ff)) (l' := #[true, true, true, true, true, true, true, true, false, false, true, false]) rfl rfl (by kernel_rfl) (by kernel_rfl) (by kernel_rfl) (by kernel_rfl) (fun _ _ _ h => h) ?_ (by assumption) ?_
            · refine Or.inl ⟨by rfl, ?_⟩; intro w' hSw; have e := Reads.cellM hSw.r HLT.out; rw [HFF.out] at e; go_simp
            try simp only [Act.put, List.setIfInBounds_toArray, List.set_cons_zero, List.set_cons_succ]
            refine one_to (i := 8) (l' := #[true, true, true, true, true, true, true, true, true, false, true, false]) rfl (by kernel_rfl) (by kernel_rfl) (fun K hK => ?_)
            go_simp
            refine (HP2.out _).mono ?_
            rintro e V ⟨rfl, rfl⟩
            dsimp only
            refine hK.out _ _ (by first | exact HI.out | exact HI.out.go (Below.refl _ _).drew) (fun hHeld => ?_)
            clear hK K
            try simp only [Act.put, List.setIfInBounds_toArray, List.set_cons_zero, List.set_cons_succ]
            refine take_to (i := 9) (d := some 49) (v := ?_) (l' := #[true, true, true, true, true, true, true, true, true, true, true, false]) rfl rfl (by kernel_rfl) (by kernel_rfl) (by kernel_rfl) (by kernel_rfl) (fun _ _ _ h => h) (Or.inl ⟨by rfl, ?_⟩) (by assumption) ?_; rotate_left; · (intro w' hSw; (try dsimp only at hSw); go_simp; (try with_reducible rfl))
            try simp only [Act.put, List.setIfInBounds_toArray, List.set_cons_zero, List.set_cons_succ]
            refine one_to (i := 11) (l' := #[true, true, true, true, true, true, true, true, true, true, true, true]) rfl (by kernel_rfl) (by kernel_rfl) (fun K hK => ?_)
            obtain ⟨z0, z1, z2, zf, zz⟩ := row3 HZB.out
            have HNB := Lib.hid (put3 (.int .i64 ff) (.int .i64 tt) (.int .i64 0) HZB.out)
            have HNI := Lib.hid (HI.out.put HHL.out HHD.out (.int .i64 ff) (.int .i64 tt) (.int .i64 0))
            go_simp
            replace HI := Lib.hid HNI.out
            clear z0 z1 z2 zf zz HNI
            generalize ((V.setCell ⟨H, 0, none⟩ (.int .i64 ff)).setCell ⟨H, 1, none⟩ (.int .i64 tt)).setCell ⟨H, 2, none⟩ (.int .i64 0) = V at HNB HI ⊢
            refine hK.out _ _ (by first | exact HI.out | exact HI.out.go (Below.refl _ _).drew) (fun hHeld => ?_)
            clear hK K
            try simp only [Act.put, List.setIfInBounds_toArray, List.set_cons_zero, List.set_cons_succ]
            refine wpAnyH_done (by kernel_rfl) ?_ _
            refine NoPanic.normal ?_
            clear hHeld
            go_wp2_with fail
            go_meet
            exact ⟨H, rfl, HNB.out, HI.out, HHL.out⟩
        case rest =>
        obtain ⟨H, rfl, hnb, hi, hhl⟩ := hcut
        subst hf2
        have HI := Lib.hid hi
        have HNB := Lib.hid hnb
        clear hi hnb
        have hK0 := HI.out.t.p.cell (fn * 2) (by omega)
        obtain ⟨kk, hkk⟩ : ∃ x, P (fn * 2) = x := ⟨_, rfl⟩
        rw [hkk] at hK0 HB1
        obtain ⟨m0, m1, m2, mf, mz⟩ := row3 HNB.out
        have HP3 := Lib.hid (fun V => pick4_any a3 V)
        clear HP1 HP2 HLT HFF htt hkk hfk hfs hI2
        by_cases hk : kk = 1
        · subst hk
          by_cases h56 : 56 ≤ tt
          · obtain ⟨bb, hbb⟩ : ∃ bb, a3 % 4 = bb := ⟨_, rfl⟩
            have hb0 : 0 ≤ bb := by omega
            have hb1 : bb < 4 := by omega
            have HB2 := Lib.hid (show mdB P (mdF P a1) (mdT P a2) a3 = 2 + bb by rw [HB1.out, ← hbb]; simp [h56])
            rw [hbb] at HP3
            have hw : IntKind.i64.wrap (2 + bb) = 2 + bb := IntWalk.i64_in _ (by omega)
            clear hbb HB1
            go_wp2_with fail
            refine (HP3.out _).mono ?_
            rintro e V ⟨rfl, rfl⟩
            go_upto_region 12 with (fail)
            have HN2 := Lib.hid (Go.heap_setCell_same wc H 2 _ _ (.int .i64 (2 + bb)) HNB.out)
            have HI2 := Lib.hid (HI.out.t.go2 ((Below.refl _ wc).setCell (p := ⟨H, 2, none⟩) hhl (.int .i64 (2 + bb))))
            clear m0 m1 m2 mf mz HI HNB hK0
            generalize wc.setCell ⟨H, 2, none⟩ (.int .i64 (2 + bb)) = V at HN2 HI2 ⊢
            obtain ⟨m0, m1, m2, mf, mz⟩ := row3 HN2.out
            obtain ⟨z0, z1, z2, zf, zz⟩ := row3 HI2.out.z
            go_wp2
            rw [HB2.out, HF1.out, HT1.out]
            refine bodyPost_ret (v := .agg #[.int .i64 (fn : Int), .int .i64 tt, .int .i64 (2 + bb)]) ?_ rfl ⟨rfl, below_put3 _ _ _ HI2.out.b (by omega)⟩
            exact results_cell_row (p := 8) (ty := 34) rfl _ _ (w.heap.size + 1) 34 _ (0, 0) _ rfl (put3 _ _ _ HI2.out.z) Tryd.underlying34 rfl (by kernel_rfl)
          by_cases h8 : tt < 8
          · obtain ⟨bb, hbb⟩ : ∃ bb, a3 % 4 = bb := ⟨_, rfl⟩
            have hb0 : 0 ≤ bb := by omega
            have hb1 : bb < 4 := by omega
            have HB2 := Lib.hid (show mdB P (mdF P a1) (mdT P a2) a3 = 2 + bb by rw [HB1.out, ← hbb]; simp [h56, h8])
            rw [hbb] at HP3
            have hw : IntKind.i64.wrap (2 + bb) = 2 + bb := IntWalk.i64_in _ (by omega)
            clear hbb HB1
            go_wp2_with fail
            refine (HP3.out _).mono ?_
            rintro e V ⟨rfl, rfl⟩
            go_upto_region 12 with (fail)
            have HN2 := Lib.hid (Go.heap_setCell_same wc H 2 _ _ (.int .i64 (2 + bb)) HNB.out)
            have HI2 := Lib.hid (HI.out.t.go2 ((Below.refl _ wc).setCell (p := ⟨H, 2, none⟩) hhl (.int .i64 (2 + bb))))
            clear m0 m1 m2 mf mz HI HNB hK0
            generalize wc.setCell ⟨H, 2, none⟩ (.int .i64 (2 + bb)) = V at HN2 HI2 ⊢
            obtain ⟨m0, m1, m2, mf, mz⟩ := row3 HN2.out
            obtain ⟨z0, z1, z2, zf, zz⟩ := row3 HI2.out.z
            go_wp2
            rw [HB2.out, HF1.out, HT1.out]
            refine bodyPost_ret (v := .agg #[.int .i64 (fn : Int), .int .i64 tt, .int .i64 (2 + bb)]) ?_ rfl ⟨rfl, below_put3 _ _ _ HI2.out.b (by omega)⟩
            exact results_cell_row (p := 8) (ty := 34) rfl _ _ (w.heap.size + 1) 34 _ (0, 0) _ rfl (put3 _ _ _ HI2.out.z) Tryd.underlying34 rfl (by kernel_rfl)
          have HB2 := Lib.hid (show mdB P (mdF P a1) (mdT P a2) a3 = 0 by rw [HB1.out]; simp [h56, h8])
          obtain ⟨z0, z1, z2, zf, zz⟩ := row3 HI.out.t.z
          go_wp2
          rw [HB2.out, HF1.out, HT1.out]
          refine bodyPost_ret (v := .agg #[.int .i64 (fn : Int), .int .i64 tt, .int .i64 0]) ?_ rfl ⟨rfl, below_put3 _ _ _ HI.out.t.b (by omega)⟩
          exact results_cell_row (p := 8) (ty := 34) rfl _ _ (w.heap.size + 1) 34 _ (0, 0) _ rfl (put3 _ _ _ HI.out.t.z) Tryd.underlying34 rfl (by kernel_rfl)
        · have hk1 : (kk == 1) = false := by simp [hk]
          have HB2 := Lib.hid (show mdB P (mdF P a1) (mdT P a2) a3 = 0 by rw [HB1.out, hk1]; rfl)
          obtain ⟨z0, z1, z2, zf, zz⟩ := row3 HI.out.t.z
          go_wp2
          rw [HB2.out, HF1.out, HT1.out]
          refine bodyPost_ret (v := .agg #[.int .i64 (fn : Int), .int .i64 tt, .int .i64 0]) ?_ rfl ⟨rfl, below_put3 _ _ _ HI.out.t.b (by omega)⟩
          exact results_cell_row (p := 8) (ty := 34) rfl _ _ (w.heap.size + 1) 34 _ (0, 0) _ rfl (put3 _ _ _ HI.out.t.z) Tryd.underlying34 rfl (by kernel_rfl)
end Go.Proofs.YtlfapakllhhadaaDoor
