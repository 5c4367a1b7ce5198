/-
  Contracts: what a judge asks: whether a position may be played on, castlings, their ways.
-/
import Derived.Test.YthinkiljhkanhaaGreatDoorG20
import Derived.Test.YthinkiljhkanhaaGreatDoorG21
import Derived.Test.YthinkiljhkanhaaGreatDoorG14
import Derived.Test.YthinkiljhkanhaaGreatDoorG1
namespace Go.Proofs.YthinkiljhkanhaaGreatDoor
open Go.RowKit Go.Sort
set_option linter.unusedSimpArgs false
set_option linter.unusedVariables false
set_option maxRecDepth 20000

/-- a position may be played on -/
def posB (P : Nat → Int) : Bool := rightB P && !chkB P (oth (P 128))
/-- a move, one as pieces go, is a castling -/
def cstM (P : Nat → Int) (s n : Nat) : Bool := (P (s * 2) == 6) && (((n : Int) == (s : Int) + 2) || ((n : Int) == (s : Int) - 2))
/-- the squares of a castling's king that are not attacked -/
def wayF (f b : Int) (i : Nat) : Int := if i = 0 then f else b
def freeB (P : Nat → Int) (s n : Nat) : Bool := !isAt P (oth (P 128)) (wayF (s : Int) (((s : Int) + (n : Int)) / 2)) 2
theorem way_reads (V : World) (f b : Int) : Reads (V.alloc (.cells #[.int .i64 f, .int .i64 b] 3)).heap.size (V.alloc (.cells #[.int .i64 f, .int .i64 b] 3)) (some ⟨V.heap.size, 0, none⟩) 2 (fun i => .int .i64 (wayF f b i)) := by
  refine .inr ⟨V.heap.size, 0, rfl, by simp, fun i hi => ?_⟩
  have h : (V.alloc (.cells #[.int .i64 f, .int .i64 b] 3)).heap[V.heap.size]? = some (.cells #[.int .i64 f, .int .i64 b] 3 (0, 0)) := sl_at rfl
  obtain ⟨q1, q2, _, _⟩ := row2 h
  rcases (show i = 0 ∨ i = 1 by omega) with rfl | rfl
  · exact q1
  · exact q2
/-- what stands in a judge's calls -/
structure JQ (B b : Nat) (P : Nat → Int) (w W : World) : Prop where
  p : PB W b P
  gb : GB B W
  gs : GS B W
  gm : GM B W
  gp : GP B W
  bel : Below w.heap.size w W
  k : B ≤ w.heap.size
theorem JQ.s {B b : Nat} {P : Nat → Int} {w W : World} (h : JQ B b P w W) : B ≤ W.heap.size := Nat.le_trans h.k h.bel.size
theorem JQ.go {B b : Nat} {P : Nat → Int} {w W W' : World} (h : JQ B b P w W) (g : Below W.heap.size W W') : JQ B b P w W' :=
  ⟨h.p.go g, h.gb.below (g.mono h.s), h.gs.below (g.mono h.s), h.gm.below (g.mono h.s), h.gp.below (g.mono h.s), h.bel.trans (g.mono h.bel.size), h.k⟩
theorem JQ.begin {B b : Nat} {P : Nat → Int} {w : World} (hp : PB w b P) (hb : GB B w) (hs : GS B w) (hm : GM B w) (hg : GP B w) (hB : B ≤ w.heap.size) : JQ B b P w w := ⟨hp, hb, hs, hm, hg, Below.refl _ _, hB⟩
theorem JQ.anew {B b : Nat} {P : Nat → Int} {w W : World} (h : JQ B b P w W) : JQ B b P W W := ⟨h.p, h.gb, h.gs, h.gm, h.gp, Below.refl _ _, h.s⟩
set_option maxHeartbeats 2000000 in
set_option maxRecDepth 100000 in
theorem jPos_any (B b : Nat) (P : Nat → Int) (w : World) (h : JQ B b P w w) :
    Calls Tryz.prog 44 #[.pointer (some ⟨b, 0, none⟩)] w fun e w' => e = .returned (.bool (posB P)) ∧ Below w.heap.size w w' := by
  obtain ⟨X, hX⟩ : ∃ X, X = (pc P).toArray := ⟨_, rfl⟩
  have HI := Lib.hid h
  obtain ⟨rb, hrb⟩ : ∃ x, rightB P = x := ⟨_, rfl⟩
  obtain ⟨ch, hch⟩ : ∃ x, chkB P (oth (P 128)) = x := ⟨_, rfl⟩
  obtain ⟨sd, hsd⟩ : ∃ x, P 128 = x := ⟨_, rfl⟩
  obtain ⟨od, hod⟩ : ∃ x, oth sd = x := ⟨_, rfl⟩
  have HV := Lib.hid (show posB P = (rb && !ch) by unfold posB; rw [hrb, hch])
  rw [hsd, hod] at hch
  have c4 : ∀ dd os, Calls Tryz.prog 31 #[.agg X] (grow (redrawn w dd) os) fun e w'' => e = .returned (.bool rb) ∧ ∃ p : Regrown, w'' = grow (redrawn w p.d) p.os := fun dd os => by
    subst hX; subst hrb
    exact Calls.regrown_of (right_any P _ B (HI.out.go (below_regrown w dd os)).gb (HI.out.go (below_regrown w dd os)).s)
  have c15 := regrown_same (w := w) (fun W => other_any sd W)
  rw [hod] at c15
  have c16 : ∀ dd os, Calls Tryz.prog 28 #[.agg X, .int .i64 od] (grow (redrawn w dd) os) fun e w'' => e = .returned (.bool ch) ∧ ∃ p : Regrown, w'' = grow (redrawn w p.d) p.os := fun dd os => by
    subst hX; subst hch
    exact Calls.regrown_of (chk_any P od _ B (HI.out.go (below_regrown w dd os)).gs (HI.out.go (below_regrown w dd os)).s)
  have e1 := cell_regrown (HI.out.p.cell 128 (by omega))
  rw [hsd] at e1
  have HCP := Lib.hid HI.out.p.regrown
  have HX := Lib.hid hX
  clear hX h hrb hch hsd hod
  go_enter Tryz.func44, Tryz.ntmps44
  go_upto_region 1 with (fail)
  cases rb
  · refine wp_region_quiet_below (by kernel_rfl) (by kernel_rfl) ?_
    iterate 3 (go_big_quiet_step (fail))
    refine wpQuiet_pos (by rfl) _ (by rfl) b P X HX.out (by rfl) HCP.out ?_
    try simp only [Act.put, List.setIfInBounds_toArray, List.set_cons_zero, List.set_cons_succ]
    go_big_quiet_step (exact c4 _ _)
    repeat (go_big_quiet_step (fail))
    refine wpQuiet_nil ?_
    rintro W9 ⟨pq, rfl⟩
    have HB := Lib.hid (below_regrown w pq.d pq.os)
    generalize grow (redrawn w pq.d) pq.os = W9 at HB ⊢
    go_wp2
    go_ret
    exact ⟨q_b (by rw [HV.out]; rfl), HB.out⟩
  · refine wp_region_quiet_below (by kernel_rfl) (by kernel_rfl) ?_
    iterate 3 (go_big_quiet_step (fail))
    refine wpQuiet_pos (by rfl) _ (by rfl) b P X HX.out (by rfl) HCP.out ?_
    try simp only [Act.put, List.setIfInBounds_toArray, List.set_cons_zero, List.set_cons_succ]
    go_big_quiet_step (exact c4 _ _)
    iterate 4 (go_big_quiet_step (fail))
    refine wpQuiet_pos (by rfl) _ (by rfl) b P X HX.out (by rfl) HCP.out ?_
    try simp only [Act.put, List.setIfInBounds_toArray, List.set_cons_zero, List.set_cons_succ]
    iterate 5 (go_big_quiet_step (fail))
    go_big_quiet_step (exact c15 _ _)
    go_big_quiet_step (exact c16 _ _)
    repeat (go_big_quiet_step (fail))
    refine wpQuiet_nil ?_
    rintro W9 ⟨pq, rfl⟩
    have HB := Lib.hid (below_regrown w pq.d pq.os)
    generalize grow (redrawn w pq.d) pq.os = W9 at HB ⊢
    go_wp2
    go_ret
    exact ⟨q_b (by rw [HV.out]; simp), HB.out⟩
set_option maxHeartbeats 2000000 in
set_option maxRecDepth 100000 in
theorem jCst_any (b : Nat) (P : Nat → Int) (s n : Nat) (k : Int) (hs : s < 64) (hn : n < 64) (w : World) (hp : PB w b P) :
    Calls Tryz.prog 116 #[.pointer (some ⟨b, 0, none⟩), .agg #[.int .i64 (s : Int), .int .i64 (n : Int), .int .i64 k]] w fun e w' => e = .returned (.bool (cstM P s n)) ∧ Below w.heap.size w w' := by
  have HP := Lib.hid (hp.go (below_new (w := w) (.cells #[.int .i64 (s : Int), .int .i64 (n : Int), .int .i64 k] 41)))
  have HM := Lib.hid (show (w.alloc (.cells #[.int .i64 (s : Int), .int .i64 (n : Int), .int .i64 k] 41)).heap[w.heap.size]? = some (.cells #[.int .i64 (s : Int), .int .i64 (n : Int), .int .i64 k] 41 (0, 0)) from sl_at rfl)
  have HB := Lib.hid (below_new (w := w) (.cells #[.int .i64 (s : Int), .int .i64 (n : Int), .int .i64 k] 41))
  have s0 : (0 : Int) ≤ s := by omega
  have s1 : (s : Int) < 64 := by omega
  have hw1 : IntKind.i64.wrap ((s : Int) + 2) = (s : Int) + 2 := IntWalk.i64_in _ (by omega)
  have hw2 : IntKind.i64.wrap ((s : Int) - 2) = (s : Int) - 2 := IntWalk.i64_in _ (by omega)
  obtain ⟨kk, hkk⟩ : ∃ x, P (s * 2) = x := ⟨_, rfl⟩
  have HV := Lib.hid (show cstM P s n = ((kk == 6) && (((n : Int) == (s : Int) + 2) || ((n : Int) == (s : Int) - 2))) by unfold cstM; rw [hkk])
  have e1 := HP.out.cell (s * 2) (by omega)
  rw [hkk] at e1
  obtain ⟨m0, m1, m2, mf, mz⟩ := row3 HM.out
  clear hp hkk hn hs
  go_enter Tryz.func116, Tryz.ntmps116
  go_upto_region 1 with (fail)
  generalize w.alloc (.cells #[.int .i64 (s : Int), .int .i64 (n : Int), .int .i64 k] 41) = W at *
  generalize w.heap.size = mb at m0 m1 m2 mf mz HM ⊢
  replace m0 := cell_regrown m0
  replace m1 := cell_regrown m1
  replace e1 := cell_regrown e1
  clear m2 mf mz HM HP
  have FIN : ∀ (v : Bool) (pq : Regrown), v = cstM P s n → True := fun _ _ _ => trivial
  clear FIN
  by_cases h6 : kk = 6
  · subst h6
    by_cases h2 : (n : Int) = (s : Int) + 2
    · have h2b : ((n : Int) == (s : Int) + 2) = true := by simpa using h2
      rw [h2b] at HV
      clear h2
      refine wp_region_quiet_below (by kernel_rfl) (by kernel_rfl) ?_
      repeat (go_big_quiet_step (fail))
      refine wpQuiet_nil ?_
      rintro W9 ⟨pq, rfl⟩
      have HB9 := Lib.hid (HB.out.trans ((below_regrown W pq.d pq.os).mono HB.out.size))
      generalize grow (redrawn W pq.d) pq.os = W9 at HB9 ⊢
      go_wp2
      go_ret
      exact ⟨q_b (by rw [HV.out]; rfl), HB9.out⟩
    · have h2b : ((n : Int) == (s : Int) + 2) = false := by simpa using h2
      rw [h2b] at HV
      clear h2
      refine wp_region_quiet_below (by kernel_rfl) (by kernel_rfl) ?_
      repeat (go_big_quiet_step (fail))
      refine wpQuiet_nil ?_
      rintro W9 ⟨pq, rfl⟩
      have HB9 := Lib.hid (HB.out.trans ((below_regrown W pq.d pq.os).mono HB.out.size))
      generalize grow (redrawn W pq.d) pq.os = W9 at HB9 ⊢
      go_wp2
      go_ret
      exact ⟨q_b (by rw [HV.out]; simp), HB9.out⟩
  · have h6b : (kk == 6) = false := by simp [h6]
    rw [h6b] at HV
    clear h6
    refine wp_region_quiet_below (by kernel_rfl) (by kernel_rfl) ?_
    repeat (go_big_quiet_step (fail))
    refine wpQuiet_nil ?_
    rintro W9 ⟨pq, rfl⟩
    have HB9 := Lib.hid (HB.out.trans ((below_regrown W pq.d pq.os).mono HB.out.size))
    generalize grow (redrawn W pq.d) pq.os = W9 at HB9 ⊢
    go_wp2
    go_ret
    exact ⟨q_b (by rw [HV.out]; rfl), HB9.out⟩
set_option maxHeartbeats 4000000 in
set_option maxRecDepth 100000 in
theorem jFree_any (B b : Nat) (P : Nat → Int) (s n : Nat) (k : Int) (hs : s < 64) (hn : n < 64) (w : World) (h : JQ B b P w w) :
    Calls Tryz.prog 117 #[.pointer (some ⟨b, 0, none⟩), .agg #[.int .i64 (s : Int), .int .i64 (n : Int), .int .i64 k]] w fun e w' => e = .returned (.bool (freeB P s n)) ∧ Below w.heap.size w w' := by
  obtain ⟨X, hX⟩ : ∃ X, X = (pc P).toArray := ⟨_, rfl⟩
  have HJ := Lib.hid (h.go (below_new (w := w) (.cells #[.int .i64 (s : Int), .int .i64 (n : Int), .int .i64 k] 41)))
  have HM := Lib.hid (show (w.alloc (.cells #[.int .i64 (s : Int), .int .i64 (n : Int), .int .i64 k] 41)).heap[w.heap.size]? = some (.cells #[.int .i64 (s : Int), .int .i64 (n : Int), .int .i64 k] 41 (0, 0)) from sl_at rfl)
  obtain ⟨bt, hbt⟩ : ∃ x, ((s : Int) + (n : Int)) / 2 = x := ⟨_, rfl⟩
  have hw1 : IntKind.i64.wrap ((s : Int) + (n : Int)) = (s : Int) + (n : Int) := IntWalk.i64_in _ (by omega)
  have hd1 : ((s : Int) + (n : Int)).tdiv 2 = bt := by rw [Int.tdiv_eq_ediv_of_nonneg (by omega)]; exact hbt
  have hw2 : wrap64 bt = bt := by unfold wrap64; omega
  obtain ⟨sd, hsd⟩ : ∃ x, P 128 = x := ⟨_, rfl⟩
  have HIS := Lib.hid (fun W p n c f hn hr hg hB => isA_any W.heap.size P (oth sd) p n c f W hn hr hg hB)
  rw [← hX] at HIS
  have HV := Lib.hid (show freeB P s n = !isAt P (oth sd) (wayF (s : Int) bt) 2 by unfold freeB; rw [hsd, hbt])
  have HSD := Lib.hid hsd
  have HX := Lib.hid hX
  clear hX h hbt hsd hn hs
  go_enter Tryz.func117, Tryz.ntmps117
  go_upto_region 1 with (fail)
  generalize w.alloc (.cells #[.int .i64 (s : Int), .int .i64 (n : Int), .int .i64 k] 41) = W at *
  obtain ⟨m0, m1, m2, mf, mz⟩ := row3 HM.out
  go_upto_region 2 with (fail)
  simp only [hw2]
  clear m0 m1 m2 mf mz hw1 hd1 hw2
  obtain ⟨mb, hmb⟩ : ∃ x, w.heap.size = x := ⟨_, rfl⟩
  rw [hmb] at HM
  simp only [hmb]
  clear hmb
  refine wp_region_noPanic ?_
  refine wp_region_start (n := 17) (l := #[false, false, false, false, false, false, false, false, false, false, false, false, false, false, false, false, false]) (S := (fun W => JQ B b P w W ∧ W.heap[mb]? = some (.cells #[.int .i64 (s : Int), .int .i64 (n : Int), .int .i64 k] 41 (0, 0)))) (by kernel_rfl) rfl (by kernel_rfl) (by first | exact ⟨HJ.out, HM.out⟩ | exact ⟨HJ.out.go (Below.refl _ _).drew, sl_go HM.out (Below.refl _ _).drew⟩) (fun hHeld => ?_)
  replace HJ := Lib.hid (HJ.out.go (Below.refl W.heap.size W).drew)
  replace HM := Lib.hid (sl_go HM.out (Below.refl W.heap.size W).drew)
  generalize W.drew = V at *
  refine take_to (i := 0) (d := some 12) (v := ?_) (l' := #[true, false, false, false, false, false, false, false, false, false, false, false, false, false, false, false, false]) rfl rfl (by kernel_rfl) (by kernel_rfl) (by kernel_rfl) (by kernel_rfl) (fun _ _ _ h => h) (Or.inl ⟨by rfl, ?_⟩) (by assumption) ?_; rotate_left; · (intro w' hSw; (try dsimp only at hSw); go_simp; (try with_reducible rfl))
  try simp only [Act.put, List.setIfInBounds_toArray, List.set_cons_zero, List.set_cons_succ]
  refine take_to (i := 1) (d := some 13) (v := ?_) (l' := #[true, true, false, false, false, false, false, false, false, false, false, false, false, false, false, false, false]) rfl rfl (by kernel_rfl) (by kernel_rfl) (by kernel_rfl) (by kernel_rfl) (fun _ _ _ h => h) (Or.inl ⟨by rfl, ?_⟩) (by assumption) ?_; rotate_left; · (intro w' hSw; (try dsimp only at hSw); go_simp; (try with_reducible rfl))
  try simp only [Act.put, List.setIfInBounds_toArray, List.set_cons_zero, List.set_cons_succ]
  refine take_to (i := 2) (d := some 14) (v := ?_) (l' := #[true, true, true, false, false, false, false, false, false, false, false, false, false, false, false, false, false]) rfl rfl (by kernel_rfl) (by kernel_rfl) (by kernel_rfl) (by kernel_rfl) (fun _ _ _ h => h) (Or.inl ⟨by rfl, ?_⟩) (by assumption) ?_; rotate_left; · (intro w' hSw; (try dsimp only at hSw); go_simp; (try with_reducible rfl))
  try simp only [Act.put, List.setIfInBounds_toArray, List.set_cons_zero, List.set_cons_succ]
  refine take_to (i := 3) (d := some 15) (v := (.agg X)) (l' := #[true, true, true, true, false, false, false, false, false, false, false, false, false, false, false, false, false]) rfl rfl (by kernel_rfl) (by kernel_rfl) (by kernel_rfl) (by kernel_rfl) (fun _ _ _ h => h) ?_ (by assumption) ?_
  · exact yields_posC (by rfl) _ (by rfl) b P X HX.out (by rfl) (fun W h => h.1.p)
  try simp only [Act.put, List.setIfInBounds_toArray, List.set_cons_zero, List.set_cons_succ]
  refine take_to (i := 4) (d := some 16) (v := ?_) (l' := #[true, true, true, true, true, false, false, false, false, false, false, false, false, false, false, false, false]) rfl rfl (by kernel_rfl) (by kernel_rfl) (by kernel_rfl) (by kernel_rfl) (fun _ _ _ h => h) (Or.inl ⟨by rfl, ?_⟩) (by assumption) ?_; rotate_left; · (intro w' hSw; (try dsimp only at hSw); go_simp; (try with_reducible rfl))
  try simp only [Act.put, List.setIfInBounds_toArray, List.set_cons_zero, List.set_cons_succ]
  refine take_to (i := 5) (d := some 17) (v := ?_) (l' := #[true, true, true, true, true, true, false, false, false, false, false, false, false, false, false, false, false]) rfl rfl (by kernel_rfl) (by kernel_rfl) (by kernel_rfl) (by kernel_rfl) (fun _ _ _ h => h) (Or.inl ⟨by rfl, ?_⟩) (by assumption) ?_; rotate_left; · (intro w' hSw; (try dsimp only at hSw); go_simp; (try with_reducible rfl))
  try simp only [Act.put, List.setIfInBounds_toArray, List.set_cons_zero, List.set_cons_succ]
  refine take_to (i := 6) (d := some 18) (v := ?_) (l' := #[true, true, true, true, true, true, true, false, false, false, false, false, false, false, false, false, false]) rfl rfl (by kernel_rfl) (by kernel_rfl) (by kernel_rfl) (by kernel_rfl) (fun _ _ _ h => h) (Or.inl ⟨by rfl, ?_⟩) (by assumption) ?_; rotate_left; · (intro w' hSw; (try dsimp only at hSw); go_simp; (try with_reducible rfl))
  try simp only [Act.put, List.setIfInBounds_toArray, List.set_cons_zero, List.set_cons_succ]
  refine take_to (i := 7) (d := some 19) (v := ?_) (l' := #[true, true, true, true, true, true, true, true, false, false, false, false, false, false, false, false, false]) rfl rfl (by kernel_rfl) (by kernel_rfl) (by kernel_rfl) (by kernel_rfl) (fun _ _ _ h => h) (Or.inl ⟨by rfl, ?_⟩) (by assumption) ?_; rotate_left; · (intro w' hSw; (try dsimp only at hSw); go_simp; (try with_reducible rfl))
  try simp only [Act.put, List.setIfInBounds_toArray, List.set_cons_zero, List.set_cons_succ]
  refine take_to (i := 8) (d := some 20) (v := (.int .i64 sd)) (l' := #[true, true, true, true, true, true, true, true, true, false, false, false, false, false, false, false, false]) rfl rfl (by kernel_rfl) (by kernel_rfl) (by kernel_rfl) (by kernel_rfl) (fun _ _ _ h => h) ?_ (by assumption) ?_
  · refine Or.inl ⟨by rfl, ?_⟩; intro w' hSw; (try dsimp only at hSw); have e1 := hSw.1.p.cell 128 (by omega); rw [HSD.out] at e1; go_simp
  try simp only [Act.put, List.setIfInBounds_toArray, List.set_cons_zero, List.set_cons_succ]
  refine take_to (i := 10) (d := some 22) (v := ?_) (l' := #[true, true, true, true, true, true, true, true, true, false, true, false, false, false, false, false, false]) rfl rfl (by kernel_rfl) (by kernel_rfl) (by kernel_rfl) (by kernel_rfl) (fun _ _ _ h => h) (Or.inl ⟨by rfl, ?_⟩) (by assumption) ?_; rotate_left; · (intro w' hSw; (try dsimp only at hSw); go_simp; (try with_reducible rfl))
  try simp only [Act.put, List.setIfInBounds_toArray, List.set_cons_zero, List.set_cons_succ]
  refine take_to (i := 11) (d := some 23) (v := (.int .i64 (s : Int))) (l' := #[true, true, true, true, true, true, true, true, true, false, true, true, false, false, false, false, false]) rfl rfl (by kernel_rfl) (by kernel_rfl) (by kernel_rfl) (by kernel_rfl) (fun _ _ _ h => h) ?_ (by assumption) ?_
  · refine Or.inl ⟨by rfl, ?_⟩; intro w' hSw; (try dsimp only at hSw); obtain ⟨m0, m1, m2, mf, mz⟩ := row3 hSw.2; go_simp
  try simp only [Act.put, List.setIfInBounds_toArray, List.set_cons_zero, List.set_cons_succ]
  refine take_to (i := 12) (d := some 24) (v := ?_) (l' := #[true, true, true, true, true, true, true, true, true, false, true, true, true, false, false, false, false]) rfl rfl (by kernel_rfl) (by kernel_rfl) (by kernel_rfl) (by kernel_rfl) (fun _ _ _ h => h) (Or.inl ⟨by rfl, ?_⟩) (by assumption) ?_; rotate_left; · (intro w' hSw; (try dsimp only at hSw); go_simp; (try with_reducible rfl))
  try simp only [Act.put, List.setIfInBounds_toArray, List.set_cons_zero, List.set_cons_succ]
  refine two_to (i := 9) (j := 13) (l1 := #[true, true, true, true, true, true, true, true, true, true, true, true, true, false, false, false, false]) (l2 := #[true, true, true, true, true, true, true, true, true, false, true, true, true, true, false, false, false]) rfl rfl (by kernel_rfl) (by kernel_rfl) (by kernel_rfl) (fun K hK => ?_) (fun K hK => ?_)
  · skip
    go_simp
    refine (other_any sd _).mono ?_
    rintro e V ⟨rfl, rfl⟩
    dsimp only
    refine hK.out _ _ (by first | exact ⟨HJ.out, HM.out⟩ | exact ⟨HJ.out.go (Below.refl _ _).drew, sl_go HM.out (Below.refl _ _).drew⟩) (fun hHeld => ?_)
    clear hK K
    try simp only [Act.put, List.setIfInBounds_toArray, List.set_cons_zero, List.set_cons_succ]
    refine one_to (i := 13) (l' := #[true, true, true, true, true, true, true, true, true, true, true, true, true, true, false, false, false]) rfl (by kernel_rfl) (by kernel_rfl) (fun K hK => ?_)
    go_simp
    have hb : Below V.heap.size V (V.alloc (.cells #[.int .i64 (s : Int), .int .i64 bt] 3)) := below_new _
    have HRW := Lib.hid (show Reads (V.alloc (.cells #[.int .i64 (s : Int), .int .i64 bt] 3)).heap.size (V.alloc (.cells #[.int .i64 (s : Int), .int .i64 bt] 3)) (some ⟨V.heap.size, 0, none⟩) 2 (fun i => .int .i64 (wayF (s : Int) bt i)) from way_reads _ _ _)
    replace HJ := Lib.hid (HJ.out.go hb)
    replace HM := Lib.hid (sl_go HM.out hb)
    clear hb
    generalize V.alloc (.cells #[.int .i64 (s : Int), .int .i64 bt] 3) = V at *
    refine hK.out _ _ (by first | exact ⟨HJ.out, HM.out⟩ | exact ⟨HJ.out.go (Below.refl _ _).drew, sl_go HM.out (Below.refl _ _).drew⟩) (fun hHeld => ?_)
    clear hK K
    try simp only [Act.put, List.setIfInBounds_toArray, List.set_cons_zero, List.set_cons_succ]
    refine one_to (i := 14) (l' := #[true, true, true, true, true, true, true, true, true, true, true, true, true, true, true, false, false]) rfl (by kernel_rfl) (by kernel_rfl) (fun K hK => ?_)
    go_simp
    refine (HIS.out _ _ 2 2 _ (by omega) HRW.out (HJ.out.gs.mono HJ.out.s) (Nat.le_refl _)).mono ?_
    rintro e V ⟨rfl, hb⟩
    replace HJ := Lib.hid (HJ.out.go hb)
    replace HM := Lib.hid (sl_go HM.out hb)
    clear hb HRW
    dsimp only
    refine hK.out _ _ (by first | exact ⟨HJ.out, HM.out⟩ | exact ⟨HJ.out.go (Below.refl _ _).drew, sl_go HM.out (Below.refl _ _).drew⟩) (fun hHeld => ?_)
    clear hK K
    try simp only [Act.put, List.setIfInBounds_toArray, List.set_cons_zero, List.set_cons_succ]
    refine take_to (i := 15) (d := some 27) (v := ?_) (l' := #[true, true, true, true, true, true, true, true, true, true, true, true, true, true, true, true, false]) rfl rfl (by kernel_rfl) (by kernel_rfl) (by kernel_rfl) (by kernel_rfl) (fun _ _ _ h => h) (Or.inl ⟨by rfl, ?_⟩) (by assumption) ?_; rotate_left; · (intro w' hSw; (try dsimp only at hSw); go_simp; (try with_reducible rfl))
    try simp only [Act.put, List.setIfInBounds_toArray, List.set_cons_zero, List.set_cons_succ]
    refine take_to (i := 16) (d := some 4) (v := ?_) (l' := #[true, true, true, true, true, true, true, true, true, true, true, true, true, true, true, true, true]) rfl rfl (by kernel_rfl) (by kernel_rfl) (by kernel_rfl) (by kernel_rfl) (fun _ _ _ h => h) (Or.inl ⟨by rfl, ?_⟩) (by assumption) ?_; rotate_left; · (intro w' hSw; (try dsimp only at hSw); go_simp; (try with_reducible rfl))
    try simp only [Act.put, List.setIfInBounds_toArray, List.set_cons_zero, List.set_cons_succ]
    refine wpAnyH_done (by kernel_rfl) ?_ _
    refine NoPanic.normal ?_
    clear hHeld
    go_wp2
    go_ret
    exact ⟨q_b HV.out.symm, HJ.out.bel⟩
  · skip
    go_simp
    have hb : Below V.heap.size V (V.alloc (.cells #[.int .i64 (s : Int), .int .i64 bt] 3)) := below_new _
    have HRW := Lib.hid (show Reads (V.alloc (.cells #[.int .i64 (s : Int), .int .i64 bt] 3)).heap.size (V.alloc (.cells #[.int .i64 (s : Int), .int .i64 bt] 3)) (some ⟨V.heap.size, 0, none⟩) 2 (fun i => .int .i64 (wayF (s : Int) bt i)) from way_reads _ _ _)
    replace HJ := Lib.hid (HJ.out.go hb)
    replace HM := Lib.hid (sl_go HM.out hb)
    clear hb
    generalize V.alloc (.cells #[.int .i64 (s : Int), .int .i64 bt] 3) = V at *
    refine hK.out _ _ (by first | exact ⟨HJ.out, HM.out⟩ | exact ⟨HJ.out.go (Below.refl _ _).drew, sl_go HM.out (Below.refl _ _).drew⟩) (fun hHeld => ?_)
    clear hK K
    try simp only [Act.put, List.setIfInBounds_toArray, List.set_cons_zero, List.set_cons_succ]
    refine one_to (i := 9) (l' := #[true, true, true, true, true, true, true, true, true, true, true, true, true, true, false, false, false]) rfl (by kernel_rfl) (by kernel_rfl) (fun K hK => ?_)
    go_simp
    refine (other_any sd _).mono ?_
    rintro e V ⟨rfl, rfl⟩
    dsimp only
    refine hK.out _ _ (by first | exact ⟨HJ.out, HM.out⟩ | exact ⟨HJ.out.go (Below.refl _ _).drew, sl_go HM.out (Below.refl _ _).drew⟩) (fun hHeld => ?_)
    clear hK K
    try simp only [Act.put, List.setIfInBounds_toArray, List.set_cons_zero, List.set_cons_succ]
    refine one_to (i := 14) (l' := #[true, true, true, true, true, true, true, true, true, true, true, true, true, true, true, false, false]) rfl (by kernel_rfl) (by kernel_rfl) (fun K hK => ?_)
    go_simp
    refine (HIS.out _ _ 2 2 _ (by omega) HRW.out (HJ.out.gs.mono HJ.out.s) (Nat.le_refl _)).mono ?_
    rintro e V ⟨rfl, hb⟩
    replace HJ := Lib.hid (HJ.out.go hb)
    replace HM := Lib.hid (sl_go HM.out hb)
    clear hb HRW
    dsimp only
    refine hK.out _ _ (by first | exact ⟨HJ.out, HM.out⟩ | exact ⟨HJ.out.go (Below.refl _ _).drew, sl_go HM.out (Below.refl _ _).drew⟩) (fun hHeld => ?_)
    clear hK K
    try simp only [Act.put, List.setIfInBounds_toArray, List.set_cons_zero, List.set_cons_succ]
    refine take_to (i := 15) (d := some 27) (v := ?_) (l' := #[true, true, true, true, true, true, true, true, true, true, true, true, true, true, true, true, false]) rfl rfl (by kernel_rfl) (by kernel_rfl) (by kernel_rfl) (by kernel_rfl) (fun _ _ _ h => h) (Or.inl ⟨by rfl, ?_⟩) (by assumption) ?_; rotate_left; · (intro w' hSw; (try dsimp only at hSw); go_simp; (try with_reducible rfl))
    try simp only [Act.put, List.setIfInBounds_toArray, List.set_cons_zero, List.set_cons_succ]
    refine take_to (i := 16) (d := some 4) (v := ?_) (l' := #[true, true, true, true, true, true, true, true, true, true, true, true, true, true, true, true, true]) rfl rfl (by kernel_rfl) (by kernel_rfl) (by kernel_rfl) (by kernel_rfl) (fun _ _ _ h => h) (Or.inl ⟨by rfl, ?_⟩) (by assumption) ?_; rotate_left; · (intro w' hSw; (try dsimp only at hSw); go_simp; (try with_reducible rfl))
    try simp only [Act.put, List.setIfInBounds_toArray, List.set_cons_zero, List.set_cons_succ]
    refine wpAnyH_done (by kernel_rfl) ?_ _
    refine NoPanic.normal ?_
    clear hHeld
    go_wp2
    go_ret
    exact ⟨q_b HV.out.symm, HJ.out.bel⟩
end Go.Proofs.YthinkiljhkanhaaGreatDoor
