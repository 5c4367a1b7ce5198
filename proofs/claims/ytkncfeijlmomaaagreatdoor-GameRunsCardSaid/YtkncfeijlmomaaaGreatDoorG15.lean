/-
  Merged: Pe, Pg.
-/
import Derived.Test.YtkncfeijlmomaaaGreatDoorG14
import Derived.Test.YtkncfeijlmomaaaGreatDoorG5
import Derived.Test.YtkncfeijlmomaaaGreatDoorG13

namespace Go.Proofs.YtkncfeijlmomaaaGreatDoor
open Go.RowKit Go.Sort
set_option linter.unusedSimpArgs false
set_option linter.unusedVariables false
set_option maxRecDepth 20000

/-- what stands while a piece is put -/
structure HT (w W : World) (blk : Nat) (Q : Nat → Int) (f t k kk dd : Int) : Prop where
  h : HG w W blk Q
  m : W.heap[w.heap.size]? = some (.cells #[.int .i64 f, .int .i64 t, .int .i64 k] 46 (0, 0))
  x : W.heap[w.heap.size + 1]? = some (.cells #[.int .i64 kk, .int .i64 dd] 25 (0, 0))
  s : blk < w.heap.size
theorem HT.go {w W W' : World} {blk : Nat} {Q : Nat → Int} {f t k kk dd : Int} (h : HT w W blk Q f t k kk dd) (g : Below W.heap.size W W') : HT w W' blk Q f t k kk dd :=
  ⟨h.h.go g, sl_go h.m g, sl_go h.x g, h.s⟩
theorem HT.pt {w W : World} {blk : Nat} {Q : Nat → Int} {f t k kk dd : Int} (h : HT w W blk Q f t k kk dd) (m : Nat) (a c : Int) (hm : m < 64) :
    HT w ((W.setCell ⟨blk, m * 2, none⟩ (.int .i64 a)).setCell ⟨blk, m * 2 + 1, none⟩ (.int .i64 c)) blk (ptN Q m a c) f t k kk dd := by
  have hs := h.s
  exact ⟨h.h.pt m a c hm, (Go.heap_setCell_other _ _ _ _ (by simp; omega)).trans ((Go.heap_setCell_other _ _ _ _ (by simp; omega)).trans h.m), (Go.heap_setCell_other _ _ _ _ (by simp; omega)).trans ((Go.heap_setCell_other _ _ _ _ (by simp; omega)).trans h.x), hs⟩
theorem HT.kind {w W : World} {blk : Nat} {Q : Nat → Int} {f t k kk dd : Int} (h : HT w W blk Q f t k kk dd) (a : Int) :
    HT w (W.setCell ⟨w.heap.size + 1, 0, none⟩ (.int .i64 a)) blk Q f t k a dd := by
  have hs := h.s
  refine ⟨⟨h.h.q.other (by omega) _ _, ?_⟩, (Go.heap_setCell_other _ _ _ _ (by simp)).trans h.m, Go.heap_setCell_same _ _ 0 _ _ _ h.x, hs⟩
  exact ⟨h.h.g.os, h.h.g.tape, h.h.g.output, by rw [World.size_setCell]; exact h.h.g.size, fun i hi hne => by
    rw [Go.heap_setCell_other _ _ _ _ (by simp; omega)]; exact h.h.g.block i hi hne⟩
theorem HT.begin {w : World} {blk : Nat} {P : Nat → Int} (f t k kk dd : Int) (h : PB w blk P) :
    HT w ((w.alloc (.cells #[.int .i64 f, .int .i64 t, .int .i64 k] 46)).alloc (.cells #[.int .i64 kk, .int .i64 dd] 25)) blk P f t k kk dd := by
  obtain ⟨a1, a2, a3, a4⟩ := two_at w (.cells #[.int .i64 f, .int .i64 t, .int .i64 k] 46) (.cells #[.int .i64 kk, .int .i64 dd] 25)
  exact ⟨⟨h.go a3, gr_of_below _ a3⟩, a1, a2, h.lt⟩
/-- a piece put by a move -/
def putM (P : Nat → Int) (f t : Nat) (k tk : Int) : Nat → Int :=
  ptN (if tk == -1 then ptN P f 0 0 else ptN (ptN P f 0 0) tk.toNat 0 0) t (if k == 0 then P (2 * f) else k) (P (2 * f + 1))
set_option maxHeartbeats 2000000 in
theorem putH_any (b : Nat) (P : Nat → Int) (f t : Nat) (k tk : Int) (hf : f < 64) (ht : t < 64) (htk : tk = -1 ∨ ∃ n : Nat, tk = n ∧ n < 64) (w : World) (hp : PB w b P) :
    Calls Tryz.prog 195 #[.pointer (some ⟨b, 0, none⟩), .agg #[.int .i64 (f : Int), .int .i64 (t : Int), .int .i64 k], .int .i64 tk] w fun e w' => e = .returned (.tuple #[]) ∧ HG w w' b (putM P f t k tk) := by
  have s0 : (0 : Int) ≤ f := by omega
  have s1 : (f : Int) < 64 := by omega
  have t0 : (0 : Int) ≤ t := by omega
  have t1 : (t : Int) < 64 := by omega
  have hv : putM P f t k tk = ptN (if tk == -1 then ptN P f 0 0 else ptN (ptN P f 0 0) tk.toNat 0 0) t (if k == 0 then P (f * 2) else k) (P (f * 2 + 1)) := by unfold putM; rw [Nat.mul_comm 2 f]
  have y1 := (hp.alloc (.cells #[.int .i64 (f : Int), .int .i64 (t : Int), .int .i64 k] 46)).cell (f * 2) (by omega)
  have y2 := (hp.alloc (.cells #[.int .i64 (f : Int), .int .i64 (t : Int), .int .i64 k] 46)).cell (f * 2 + 1) (by omega)
  have hlt := hp.lt
  have HP := Lib.hid hp
  obtain ⟨kk, hkk⟩ : ∃ x, P (f * 2) = x := ⟨_, rfl⟩
  obtain ⟨dd, hdd⟩ : ∃ x, P (f * 2 + 1) = x := ⟨_, rfl⟩
  rw [hkk] at y1 hv
  rw [hdd] at y2 hv
  have HI := Lib.hid (HT.begin (f : Int) (t : Int) k kk dd hp)
  have HV := Lib.hid hv
  clear hv hkk hdd hp
  go_enter Tryz.func195, Tryz.ntmps195
  go_upto_region 1 with (fail)
  go_region
  generalize hW0 : (w.alloc (.cells #[.int .i64 (f : Int), .int .i64 (t : Int), .int .i64 k] 46)).alloc (.cells #[.int .i64 kk, .int .i64 dd] 25) = W0 at HI ⊢
  replace HI := Lib.hid (HI.out.go (Below.refl W0.heap.size W0).drew)
  generalize W0.drew = W1 at HI ⊢
  clear y1 y2 HP hW0 W0
  obtain ⟨kb, hkb⟩ : ∃ kb, (if k == 0 then kk else k) = kb := ⟨_, rfl⟩
  rw [hkb] at HV
  have HKB := Lib.hid (show ∀ W, HT w W b P f t k kk dd → k = 0 → HT w W b P f t k kb dd from fun W h hk => by subst hk; have : kb = kk := by rw [← hkb]; rfl
                                                                                                               rw [this]; exact h)
  have HKC := Lib.hid (show ¬ k = 0 → k = kb from fun h => by rw [← hkb]; simp [h])
  clear hkb
  obtain ⟨x0, x1, x2, xf, xz⟩ := row3 HI.out.m
  by_cases hk0 : k = 0
  · replace HI := Lib.hid (HKB.out _ HI.out hk0)
    have hk1 : (k != 0) = false := by simp [hk0]
    go_upto_region 4 with (fail)
    clear x0 x1 x2 xf xz
    refine forget_B (fun W => HT w W b P f t k kb dd) HI.out ?_
    clear HI HKB HKC
    intro W2 hi
    have HI := Lib.hid hi
    clear hi
    obtain ⟨x0, x1, x2, xf, xz⟩ := row3 HI.out.m
    replace x0 := cell_regrown x0
    replace x1 := cell_regrown x1
    obtain ⟨z1, z2, zf, zz⟩ := row2 HI.out.x
    replace z1 := cell_regrown z1
    replace z2 := cell_regrown z2
    clear x2 xf xz zf zz
    refine wp_region_quiet_store 8 (by kernel_rfl) rfl rfl (by kernel_rfl) (by kernel_rfl) (C := fun W' => ∃ p : Regrown, W' = grow (redrawn W2 p.d) p.os) (regrown_self _) ?_
    simp only [List.take_succ_cons, List.take_zero]
    repeat (quiet_step (fail))
    refine wpQuiet_nil ?_
    rintro W4 ⟨q, rfl⟩
    refine ⟨by rfl, ?_⟩
    replace HI := Lib.hid (HI.out.go (below_regrown W2 q.d q.os))
    clear x0 x1 z1 z2
    generalize grow (redrawn W2 q.d) q.os = W4 at HI ⊢
    have e1 := HI.out.h.q.cell (f * 2) (by omega)
    have e2 := HI.out.h.q.cell (f * 2 + 1) (by omega)
    have e3 := HI.out.h.q.fr (f * 2)
    have e4 := HI.out.h.q.fr (f * 2 + 1)
    go_simp
    clear e1 e2 e3 e4
    replace HI := Lib.hid (HI.out.pt f 0 0 hf)
    generalize (W4.setCell ⟨b, f * 2, none⟩ (.int .i64 0)).setCell ⟨b, f * 2 + 1, none⟩ (.int .i64 0) = W5 at HI ⊢
    rcases htk with rfl | ⟨n, rfl, hn⟩
    · go_upto_region 7 with (fail)
      obtain ⟨x0, x1, x2, xf, xz⟩ := row3 HI.out.m
      replace x0 := cell_regrown x0
      replace x1 := cell_regrown x1
      obtain ⟨z1, z2, zf, zz⟩ := row2 HI.out.x
      replace z1 := cell_regrown z1
      replace z2 := cell_regrown z2
      clear x2 xf xz zf zz
      refine wp_region_quiet_store 8 (by kernel_rfl) rfl rfl (by kernel_rfl) (by kernel_rfl) (C := fun W' => ∃ p : Regrown, W' = grow (redrawn W5 p.d) p.os) (regrown_self _) ?_
      simp only [List.take_succ_cons, List.take_zero]
      repeat (quiet_step (fail))
      refine wpQuiet_nil ?_
      rintro W4 ⟨q, rfl⟩
      refine ⟨by rfl, ?_⟩
      replace HI := Lib.hid (HI.out.go (below_regrown W5 q.d q.os))
      clear x0 x1 z1 z2
      generalize grow (redrawn W5 q.d) q.os = W4 at HI ⊢
      have e1 := HI.out.h.q.cell (t * 2) (by omega)
      have e2 := HI.out.h.q.cell (t * 2 + 1) (by omega)
      have e3 := HI.out.h.q.fr (t * 2)
      have e4 := HI.out.h.q.fr (t * 2 + 1)
      go_simp
      clear e1 e2 e3 e4
      have HF := Lib.hid ((HI.out.pt t kb dd ht).h)
      go_wp2
      go_end0
      exact ⟨rfl, by rw [HV.out]; exact HF.out⟩
    · have n0 : (0 : Int) ≤ n := by omega
      have n1 : (n : Int) < 64 := by omega
      have nn : ((n : Int) != -1) = true := by simp <;> omega
      have nn2 : ((n : Int) == -1) = false := by simp <;> omega
      have e1 := HI.out.h.q.cell (n * 2) (by omega)
      have e2 := HI.out.h.q.cell (n * 2 + 1) (by omega)
      have e3 := HI.out.h.q.fr (n * 2)
      have e4 := HI.out.h.q.fr (n * 2 + 1)
      rw [nn2, Int.toNat_natCast] at HV
      go_upto_region 7 with (fail)
      clear e1 e2 e3 e4
      replace HI := Lib.hid (HI.out.pt n 0 0 hn)
      generalize (W5.setCell ⟨b, n * 2, none⟩ (.int .i64 0)).setCell ⟨b, n * 2 + 1, none⟩ (.int .i64 0) = W6 at HI ⊢
      obtain ⟨x0, x1, x2, xf, xz⟩ := row3 HI.out.m
      replace x0 := cell_regrown x0
      replace x1 := cell_regrown x1
      obtain ⟨z1, z2, zf, zz⟩ := row2 HI.out.x
      replace z1 := cell_regrown z1
      replace z2 := cell_regrown z2
      clear x2 xf xz zf zz
      refine wp_region_quiet_store 8 (by kernel_rfl) rfl rfl (by kernel_rfl) (by kernel_rfl) (C := fun W' => ∃ p : Regrown, W' = grow (redrawn W6 p.d) p.os) (regrown_self _) ?_
      simp only [List.take_succ_cons, List.take_zero]
      repeat (quiet_step (fail))
      refine wpQuiet_nil ?_
      rintro W4 ⟨q, rfl⟩
      refine ⟨by rfl, ?_⟩
      replace HI := Lib.hid (HI.out.go (below_regrown W6 q.d q.os))
      clear x0 x1 z1 z2
      generalize grow (redrawn W6 q.d) q.os = W4 at HI ⊢
      have e1 := HI.out.h.q.cell (t * 2) (by omega)
      have e2 := HI.out.h.q.cell (t * 2 + 1) (by omega)
      have e3 := HI.out.h.q.fr (t * 2)
      have e4 := HI.out.h.q.fr (t * 2 + 1)
      go_simp
      clear e1 e2 e3 e4
      have HF := Lib.hid ((HI.out.pt t kb dd ht).h)
      go_wp2
      go_end0
      exact ⟨rfl, by rw [HV.out]; exact HF.out⟩
  · have hk1 : (k != 0) = true := by simp [hk0]
    obtain ⟨z1, z2, zf, zz⟩ := row2 HI.out.x
    go_upto_region 4 with (fail)
    clear x0 x1 x2 xf xz z1 z2 zf zz
    refine forget_B (fun W => HT w W b P f t k k dd) (HI.out.kind k) ?_
    rw [HKC.out hk0]
    clear HI HKB HKC
    intro W2 hi
    have HI := Lib.hid hi
    clear hi
    obtain ⟨x0, x1, x2, xf, xz⟩ := row3 HI.out.m
    replace x0 := cell_regrown x0
    replace x1 := cell_regrown x1
    obtain ⟨z1, z2, zf, zz⟩ := row2 HI.out.x
    replace z1 := cell_regrown z1
    replace z2 := cell_regrown z2
    clear x2 xf xz zf zz
    refine wp_region_quiet_store 8 (by kernel_rfl) rfl rfl (by kernel_rfl) (by kernel_rfl) (C := fun W' => ∃ p : Regrown, W' = grow (redrawn W2 p.d) p.os) (regrown_self _) ?_
    simp only [List.take_succ_cons, List.take_zero]
    repeat (quiet_step (fail))
    refine wpQuiet_nil ?_
    rintro W4 ⟨q, rfl⟩
    refine ⟨by rfl, ?_⟩
    replace HI := Lib.hid (HI.out.go (below_regrown W2 q.d q.os))
    clear x0 x1 z1 z2
    generalize grow (redrawn W2 q.d) q.os = W4 at HI ⊢
    have e1 := HI.out.h.q.cell (f * 2) (by omega)
    have e2 := HI.out.h.q.cell (f * 2 + 1) (by omega)
    have e3 := HI.out.h.q.fr (f * 2)
    have e4 := HI.out.h.q.fr (f * 2 + 1)
    go_simp
    clear e1 e2 e3 e4
    replace HI := Lib.hid (HI.out.pt f 0 0 hf)
    generalize (W4.setCell ⟨b, f * 2, none⟩ (.int .i64 0)).setCell ⟨b, f * 2 + 1, none⟩ (.int .i64 0) = W5 at HI ⊢
    rcases htk with rfl | ⟨n, rfl, hn⟩
    · go_upto_region 7 with (fail)
      obtain ⟨x0, x1, x2, xf, xz⟩ := row3 HI.out.m
      replace x0 := cell_regrown x0
      replace x1 := cell_regrown x1
      obtain ⟨z1, z2, zf, zz⟩ := row2 HI.out.x
      replace z1 := cell_regrown z1
      replace z2 := cell_regrown z2
      clear x2 xf xz zf zz
      refine wp_region_quiet_store 8 (by kernel_rfl) rfl rfl (by kernel_rfl) (by kernel_rfl) (C := fun W' => ∃ p : Regrown, W' = grow (redrawn W5 p.d) p.os) (regrown_self _) ?_
      simp only [List.take_succ_cons, List.take_zero]
      repeat (quiet_step (fail))
      refine wpQuiet_nil ?_
      rintro W4 ⟨q, rfl⟩
      refine ⟨by rfl, ?_⟩
      replace HI := Lib.hid (HI.out.go (below_regrown W5 q.d q.os))
      clear x0 x1 z1 z2
      generalize grow (redrawn W5 q.d) q.os = W4 at HI ⊢
      have e1 := HI.out.h.q.cell (t * 2) (by omega)
      have e2 := HI.out.h.q.cell (t * 2 + 1) (by omega)
      have e3 := HI.out.h.q.fr (t * 2)
      have e4 := HI.out.h.q.fr (t * 2 + 1)
      go_simp
      clear e1 e2 e3 e4
      have HF := Lib.hid ((HI.out.pt t kb dd ht).h)
      go_wp2
      go_end0
      exact ⟨rfl, by rw [HV.out]; exact HF.out⟩
    · have n0 : (0 : Int) ≤ n := by omega
      have n1 : (n : Int) < 64 := by omega
      have nn : ((n : Int) != -1) = true := by simp <;> omega
      have nn2 : ((n : Int) == -1) = false := by simp <;> omega
      have e1 := HI.out.h.q.cell (n * 2) (by omega)
      have e2 := HI.out.h.q.cell (n * 2 + 1) (by omega)
      have e3 := HI.out.h.q.fr (n * 2)
      have e4 := HI.out.h.q.fr (n * 2 + 1)
      rw [nn2, Int.toNat_natCast] at HV
      go_upto_region 7 with (fail)
      clear e1 e2 e3 e4
      replace HI := Lib.hid (HI.out.pt n 0 0 hn)
      generalize (W5.setCell ⟨b, n * 2, none⟩ (.int .i64 0)).setCell ⟨b, n * 2 + 1, none⟩ (.int .i64 0) = W6 at HI ⊢
      obtain ⟨x0, x1, x2, xf, xz⟩ := row3 HI.out.m
      replace x0 := cell_regrown x0
      replace x1 := cell_regrown x1
      obtain ⟨z1, z2, zf, zz⟩ := row2 HI.out.x
      replace z1 := cell_regrown z1
      replace z2 := cell_regrown z2
      clear x2 xf xz zf zz
      refine wp_region_quiet_store 8 (by kernel_rfl) rfl rfl (by kernel_rfl) (by kernel_rfl) (C := fun W' => ∃ p : Regrown, W' = grow (redrawn W6 p.d) p.os) (regrown_self _) ?_
      simp only [List.take_succ_cons, List.take_zero]
      repeat (quiet_step (fail))
      refine wpQuiet_nil ?_
      rintro W4 ⟨q, rfl⟩
      refine ⟨by rfl, ?_⟩
      replace HI := Lib.hid (HI.out.go (below_regrown W6 q.d q.os))
      clear x0 x1 z1 z2
      generalize grow (redrawn W6 q.d) q.os = W4 at HI ⊢
      have e1 := HI.out.h.q.cell (t * 2) (by omega)
      have e2 := HI.out.h.q.cell (t * 2 + 1) (by omega)
      have e3 := HI.out.h.q.fr (t * 2)
      have e4 := HI.out.h.q.fr (t * 2 + 1)
      go_simp
      clear e1 e2 e3 e4
      have HF := Lib.hid ((HI.out.pt t kb dd ht).h)
      go_wp2
      go_end0
      exact ⟨rfl, by rw [HV.out]; exact HF.out⟩
theorem row5 {W : World} {H : Nat} {a b c d e : Value} {t : TypeId} (h : W.heap[H]? = some (.cells #[a, b, c, d, e] t (0, 0))) :
    W.cell? ⟨H, 0, none⟩ = some a ∧ W.cell? ⟨H, 1, none⟩ = some b ∧ W.cell? ⟨H, 2, none⟩ = some c ∧ W.cell? ⟨H, 3, none⟩ = some d ∧ W.cell? ⟨H, 4, none⟩ = some e :=
  ⟨by rw [cell_of_row W H 0 _ _ (0, 0) h]; rfl, by rw [cell_of_row W H 1 _ _ (0, 0) h]; rfl, by rw [cell_of_row W H 2 _ _ (0, 0) h]; rfl, by rw [cell_of_row W H 3 _ _ (0, 0) h]; rfl, by rw [cell_of_row W H 4 _ _ (0, 0) h]; rfl⟩
/-- what stands while a rook is put -/
structure HK (w W : World) (blk : Nat) (Q : Nat → Int) (f t k c1 c2 c3 c4 c5 : Int) : Prop where
  h : HG w W blk Q
  m : W.heap[w.heap.size]? = some (.cells #[.int .i64 f, .int .i64 t, .int .i64 k] 46 (0, 0))
  x : W.heap[w.heap.size + 1]? = some (.cells #[.int .i64 c1, .int .i64 c2, .int .i64 c3, .int .i64 c4, .int .i64 c5] 198 (0, 0))
  s : blk < w.heap.size
theorem HK.go {w W W' : World} {blk : Nat} {Q : Nat → Int} {f t k c1 c2 c3 c4 c5 : Int} (h : HK w W blk Q f t k c1 c2 c3 c4 c5) (g : Below W.heap.size W W') : HK w W' blk Q f t k c1 c2 c3 c4 c5 :=
  ⟨h.h.go g, sl_go h.m g, sl_go h.x g, h.s⟩
theorem HK.pt {w W : World} {blk : Nat} {Q : Nat → Int} {f t k c1 c2 c3 c4 c5 : Int} (h : HK w W blk Q f t k c1 c2 c3 c4 c5) (m : Nat) (a c : Int) (hm : m < 64) :
    HK w ((W.setCell ⟨blk, m * 2, none⟩ (.int .i64 a)).setCell ⟨blk, m * 2 + 1, none⟩ (.int .i64 c)) blk (ptN Q m a c) f t k c1 c2 c3 c4 c5 := by
  have hs := h.s
  exact ⟨h.h.pt m a c hm, (Go.heap_setCell_other _ _ _ _ (by simp; omega)).trans ((Go.heap_setCell_other _ _ _ _ (by simp; omega)).trans h.m), (Go.heap_setCell_other _ _ _ _ (by simp; omega)).trans ((Go.heap_setCell_other _ _ _ _ (by simp; omega)).trans h.x), hs⟩
theorem HK.begin {w : World} {blk : Nat} {P : Nat → Int} (f t k c1 c2 c3 c4 c5 : Int) (h : PB w blk P) :
    HK w ((w.alloc (.cells #[.int .i64 f, .int .i64 t, .int .i64 k] 46)).alloc (.cells #[.int .i64 c1, .int .i64 c2, .int .i64 c3, .int .i64 c4, .int .i64 c5] 198)) blk P f t k c1 c2 c3 c4 c5 := by
  obtain ⟨a1, a2, a3, a4⟩ := two_at w (.cells #[.int .i64 f, .int .i64 t, .int .i64 k] 46) (.cells #[.int .i64 c1, .int .i64 c2, .int .i64 c3, .int .i64 c4, .int .i64 c5] 198)
  exact ⟨⟨h.go a3, gr_of_below _ a3⟩, a1, a2, h.lt⟩
/-- a rook put by a castling -/
def rookN (P : Nat → Int) (f t : Nat) (d : Int) (c : Nat) : Nat → Int := ptN (ptN P c 0 0) ((f + t) / 2) 4 d
set_option maxHeartbeats 2000000 in
theorem putRook_any (b : Nat) (P : Nat → Int) (f t c : Nat) (k c1 d c3 c4 : Int) (hf : f < 64) (ht : t < 64) (hc : c < 64) (w : World) (hp : PB w b P) :
    Calls Tryz.prog 196 #[.pointer (some ⟨b, 0, none⟩), .agg #[.int .i64 (f : Int), .int .i64 (t : Int), .int .i64 k], .agg #[.int .i64 c1, .int .i64 d, .int .i64 c3, .int .i64 c4, .int .i64 (c : Int)]] w fun e w' => e = .returned (.tuple #[]) ∧ HG w w' b (rookN P f t d c) := by
  have s0 : (0 : Int) ≤ c := by omega
  have s1 : (c : Int) < 64 := by omega
  obtain ⟨m, hm⟩ : ∃ m, (f + t) / 2 = m := ⟨_, rfl⟩
  have m64 : m < 64 := by omega
  have m0 : (0 : Int) ≤ m := by omega
  have m1 : (m : Int) < 64 := by omega
  have M1 := Lib.hid (fun W => betweenP_any f t k hf ht W)
  rw [hm] at M1
  have HV := Lib.hid (show rookN P f t d c = ptN (ptN P c 0 0) m 4 d by unfold rookN; rw [hm])
  have HI := Lib.hid (HK.begin (f : Int) (t : Int) k c1 d c3 c4 (c : Int) hp)
  clear hp hm
  go_enter Tryz.func196, Tryz.ntmps196
  go_upto_region 1 with (fail)
  refine forget_B (fun W => HK w W b P f t k c1 d c3 c4 c) HI.out ?_
  clear HI
  intro W2 hi
  have HI := Lib.hid hi
  clear hi
  have z5 := cell_regrown (row5 HI.out.x).2.2.2.2
  refine wp_region_quiet_store 8 (by kernel_rfl) rfl rfl (by kernel_rfl) (by kernel_rfl) (C := fun W' => ∃ p : Regrown, W' = grow (redrawn W2 p.d) p.os) (regrown_self _) ?_
  simp only [List.take_succ_cons, List.take_zero]
  repeat (quiet_step (fail))
  refine wpQuiet_nil ?_
  rintro W4 ⟨q, rfl⟩
  refine ⟨by rfl, ?_⟩
  replace HI := Lib.hid (HI.out.go (below_regrown W2 q.d q.os))
  clear z5
  generalize grow (redrawn W2 q.d) q.os = W4 at HI ⊢
  have e1 := HI.out.h.q.cell (c * 2) (by omega)
  have e2 := HI.out.h.q.cell (c * 2 + 1) (by omega)
  have e3 := HI.out.h.q.fr (c * 2)
  have e4 := HI.out.h.q.fr (c * 2 + 1)
  go_simp
  clear e1 e2 e3 e4
  replace HI := Lib.hid (HI.out.pt c 0 0 hc)
  generalize (W4.setCell ⟨b, c * 2, none⟩ (.int .i64 0)).setCell ⟨b, c * 2 + 1, none⟩ (.int .i64 0) = W5 at HI ⊢
  go_upto_region 2 with (fail)
  obtain ⟨x0, x1, x2, xf, xz⟩ := row3 HI.out.m
  replace x0 := cell_regrown x0
  replace x1 := cell_regrown x1
  replace x2 := cell_regrown x2
  have z2 := cell_regrown (row5 HI.out.x).2.1
  have cc1 := regrown_call (w := W5) M1.out
  clear xf xz
  refine wp_region_quiet_store 10 (by kernel_rfl) rfl rfl (by kernel_rfl) (by kernel_rfl) (C := fun W' => ∃ p : Regrown, W' = grow (redrawn W5 p.d) p.os) (regrown_self _) ?_
  simp only [List.take_succ_cons, List.take_zero]
  repeat (first | go_big_quiet_step (exact cc1 _ _) | quiet_step (exact cc1 _ _))
  refine wpQuiet_nil ?_
  rintro W6 ⟨q, rfl⟩
  refine ⟨by rfl, ?_⟩
  replace HI := Lib.hid (HI.out.go (below_regrown W5 q.d q.os))
  clear x0 x1 x2 z2 cc1
  generalize grow (redrawn W5 q.d) q.os = W6 at HI ⊢
  have e1 := HI.out.h.q.cell (m * 2) (by omega)
  have e2 := HI.out.h.q.cell (m * 2 + 1) (by omega)
  have e3 := HI.out.h.q.fr (m * 2)
  have e4 := HI.out.h.q.fr (m * 2 + 1)
  have HF := Lib.hid ((HI.out.pt m 4 d m64).h)
  go_simp
  go_wp2
  go_end0
  exact ⟨rfl, by rw [HV.out]; exact HF.out⟩
end Go.Proofs.YtkncfeijlmomaaaGreatDoor

namespace Go.Proofs.YtkncfeijlmomaaaGreatDoor
open Go.RowKit Go.Sort
set_option linter.unusedSimpArgs false
set_option linter.unusedVariables false
set_option maxRecDepth 20000

/-- the castlings: number, side, from, to, corner -/
def kasN (i : Nat) : Int := [1, 0, 4, 6, 7, 2, 0, 4, 2, 0, 4, 1, 60, 62, 63, 8, 1, 60, 58, 56].getD i 0
/-- what the package's variable holds -/
structure GP (B : Nat) (w : World) : Prop where
  c : 4 < B
  cas : ∀ i, i < 20 → w.cell? ⟨4, i, none⟩ = some (.int .i64 (kasN i))
theorem GP.below {B : Nat} {w w' : World} (h : GP B w) (g : Below B w w') : GP B w' :=
  ⟨h.c, fun i hi => by rw [g.cell (p := ⟨_, i, none⟩) h.c]; exact h.cas i hi⟩
theorem GP.mono {B B' : Nat} {w : World} (h : GP B w) (hb : B ≤ B') : GP B' w := ⟨Nat.lt_of_lt_of_le h.c hb, h.cas⟩
theorem GP.casR {B : Nat} {w : World} (h : GP B w) : w.rangeAt 4 0 (nums kasN 0 20) := fun j v hv => by
  have hj : j < 20 := by have := (List.getElem?_eq_some_iff.1 hv).1; rwa [nums_len] at this
  rw [nums_get _ _ _ _ hj, Nat.zero_add] at hv
  rw [Nat.zero_add, h.cas j hj, hv]
theorem infoKas : (Tryz.prog.info? 198).map (·.size) = some 5 := by kernel_rfl
theorem infoKas4 : (Tryz.prog.info? 236).map (·.size) = some 20 := by kernel_rfl
theorem nums_five (P : Nat → Int) (a : Nat) : (nums P a 5).toArray = #[.int .i64 (P a), .int .i64 (P (a + 1)), .int .i64 (P (a + 2)), .int .i64 (P (a + 3)), .int .i64 (P (a + 4))] := rfl
theorem index_kas (P : Nat → Int) (j : Nat) (hj : j < 4) (w : World) : (Instr.index 236 (.agg (nums P 0 20).toArray) (.int .i64 (j : Int))).run Tryz.prog w = .ok (.agg #[.int .i64 (P (j * 5)), .int .i64 (P (j * 5 + 1)), .int .i64 (P (j * 5 + 2)), .int .i64 (P (j * 5 + 3)), .int .i64 (P (j * 5 + 4))]) w := by
  have px : (Go.part 198 (nums P 0 20).toArray (j * 5)).run Tryz.prog w = .ok (.agg #[.int .i64 (P (j * 5)), .int .i64 (P (j * 5 + 1)), .int .i64 (P (j * 5 + 2)), .int .i64 (P (j * 5 + 3)), .int .i64 (P (j * 5 + 4))]) w := by
    simp only [Go.part, isAgg, Sem.run_bind, run_underlying Tryz.underlying198, Result.andThen_ok, Sem.run_pure, if_true, size_of_info infoKas, nums_cut P 0 20 (j * 5) (j * 5 + 5) (by omega) (by omega)]
    rw [show j * 5 + 5 - j * 5 = 5 by omega, nums_five, Nat.zero_add]
  have hr : 0 ≤ (j : Int) ∧ (j : Int) < (4 : Nat) := by omega
  simp only [Instr.index, asIntOf, Sem.run_bind, Sem.run_pure, Result.andThen_ok, run_underlying Tryz.underlying236, hr, and_self, if_true, size_of_info infoKas, Int.toNat_natCast, px]
theorem wpList_kas {ops : Array Oper} {rest : List Oper} {op : Oper} {a : Act} {w : World} {Q : Exit → Act → World → Prop} (hw : Region.wanted op (yielded ops a.tmps) = true) (x : Operand) (ho : op.op = .load 236 x)
    (Z : Array Value) (hZ : Z = (nums kasN 0 20).toArray) (hx : a.eval x = .pointer (some ⟨4, 0, none⟩)) (B : Nat) (hc : GP B w) (h : wpList Tryz.prog ops Q rest (a.put op.dst (.agg Z)) w) : wpList Tryz.prog ops Q (op :: rest) a w := by
  subst hZ
  exact BigFrame.wpList_want hw fun _ hK => wp_load_mid 236 x ho _ 0 hx (nums kasN 0 20) _ hc.casR Tryz.underlying236 rfl (by rw [infoKas4, nums_len]) (hK _ _ h)
/-- is a move castling number j -/
def csX (P : Nat → Int) (f t : Nat) (j : Nat) : Bool := (bits .and .i64 (P 129) (kasN (j * 5)) != 0) && ((f : Int) == kasN (j * 5 + 2)) && ((t : Int) == kasN (j * 5 + 3)) && pe (P (2 * f)) (P (2 * f + 1)) 6 (kasN (j * 5 + 1))
/-- the first of the first n castlings that a move is -/
def csI (P : Nat → Int) (f t : Nat) : Nat → Option Nat
  | 0 => none
  | n + 1 => match csI P f t n with
    | some j => some j
    | none => if csX P f t n then some n else none
theorem csI_first (P : Nat → Int) (f t j n : Nat) (h : csI P f t j = none) (hx : csX P f t j = true) (hn : j < n) : csI P f t n = some j := by
  induction n with
  | zero => omega
  | succ n ih =>
    unfold csI
    rcases Nat.lt_succ_iff_lt_or_eq.1 hn with h1 | rfl
    · rw [ih h1]
    · rw [h]; simp [hx]
theorem csI_next (P : Nat → Int) (f t j : Nat) (h : csI P f t j = none) (hx : csX P f t j = false) : csI P f t (j + 1) = none := by
  unfold csI; rw [h]; simp [hx]
/-- what castling answers -/
def csR : Option Nat → Value
  | some j => .tuple #[.agg #[.int .i64 (kasN (j * 5)), .int .i64 (kasN (j * 5 + 1)), .int .i64 (kasN (j * 5 + 2)), .int .i64 (kasN (j * 5 + 3)), .int .i64 (kasN (j * 5 + 4))], .bool true]
  | none => .tuple #[.agg #[.int .i64 0, .int .i64 0, .int .i64 0, .int .i64 0, .int .i64 0], .bool false]
/-- what stands while castlings are gone through -/
structure KS (w W : World) (blk : Nat) (P : Nat → Int) (f t k : Int) : Prop where
  p : PB W blk P
  m : W.heap[w.heap.size]? = some (.cells #[.int .i64 f, .int .i64 t, .int .i64 k] 46 (0, 0))
  z : W.heap[w.heap.size + 1]? = some (.cells #[.int .i64 0, .int .i64 0, .int .i64 0, .int .i64 0, .int .i64 0] 198 (0, 0))
  b : Below w.heap.size w W
theorem KS.go {w W W' : World} {blk : Nat} {P : Nat → Int} {f t k : Int} (h : KS w W blk P f t k) (g : Below W.heap.size W W') : KS w W' blk P f t k :=
  ⟨h.p.go g, sl_go h.m g, sl_go h.z g, h.b.trans (g.mono h.b.size)⟩
theorem KS.begin {w : World} {blk : Nat} {P : Nat → Int} (f t k : Int) (h : PB w blk P) :
    KS w ((w.alloc (.cells #[.int .i64 f, .int .i64 t, .int .i64 k] 46)).alloc (.cells #[.int .i64 0, .int .i64 0, .int .i64 0, .int .i64 0, .int .i64 0] 198)) blk P f t k := by
  obtain ⟨a1, a2, a3, a4⟩ := two_at w (.cells #[.int .i64 f, .int .i64 t, .int .i64 k] 46) (.cells #[.int .i64 0, .int .i64 0, .int .i64 0, .int .i64 0, .int .i64 0] 198)
  exact ⟨h.go a3, a1, a2, a3⟩
theorem put5 {W : World} {H : Nat} {a b c d e : Value} {t : TypeId} (x y z u v : Value) (h : W.heap[H]? = some (.cells #[a, b, c, d, e] t (0, 0))) :
    (((((W.setCell ⟨H, 0, none⟩ x).setCell ⟨H, 1, none⟩ y).setCell ⟨H, 2, none⟩ z).setCell ⟨H, 3, none⟩ u).setCell ⟨H, 4, none⟩ v).heap[H]? = some (.cells #[x, y, z, u, v] t (0, 0)) :=
  Go.heap_setCell_same _ H 4 _ _ v (Go.heap_setCell_same _ H 3 _ _ u (Go.heap_setCell_same _ H 2 _ _ z (Go.heap_setCell_same _ H 1 _ _ y (Go.heap_setCell_same W H 0 _ _ x h))))
theorem below_put5 {W0 W : World} {B H : Nat} (x y z u v : Value) (h : Below B W0 W) (hB : B ≤ H) : Below B W0 (((((W.setCell ⟨H, 0, none⟩ x).setCell ⟨H, 1, none⟩ y).setCell ⟨H, 2, none⟩ z).setCell ⟨H, 3, none⟩ u).setCell ⟨H, 4, none⟩ v) :=
  ((((h.setCell (p := ⟨H, 0, none⟩) hB _).setCell (p := ⟨H, 1, none⟩) hB _).setCell (p := ⟨H, 2, none⟩) hB _).setCell (p := ⟨H, 3, none⟩) hB _).setCell (p := ⟨H, 4, none⟩) hB _
theorem range5 {W : World} {H : Nat} {a b c d e : Value} {t : TypeId} (h : W.heap[H]? = some (.cells #[a, b, c, d, e] t (0, 0))) : W.rangeAt H 0 [a, b, c, d, e] := fun j v hv => by
  rw [cell_of_row W H (0 + j) _ _ (0, 0) h]; rw [Nat.zero_add]; simpa using hv
set_option maxHeartbeats 4000000 in
set_option maxRecDepth 100000 in
theorem castling_any (b : Nat) (P : Nat → Int) (f t : Nat) (k : Int) (hf : f < 64) (ht : t < 64) (w : World) (hp : PB w b P) (B : Nat) (hg : GP B w) (hB : B ≤ w.heap.size) :
    Calls Tryz.prog 192 #[.pointer (some ⟨b, 0, none⟩), .agg #[.int .i64 (f : Int), .int .i64 (t : Int), .int .i64 k]] w fun e w' => e = .returned (csR (csI P f t 4)) ∧ Below w.heap.size w w' := by
  obtain ⟨Z, hZ⟩ : ∃ Z, Z = (nums kasN 0 20).toArray := ⟨_, rfl⟩
  have HIX := Lib.hid (show ∀ (j : Nat) (hj : j < 4) (W : World), (Instr.index 236 (.agg Z) (.int .i64 (j : Int))).run Tryz.prog W = .ok (.agg #[.int .i64 (kasN (j * 5)), .int .i64 (kasN (j * 5 + 1)), .int .i64 (kasN (j * 5 + 2)), .int .i64 (kasN (j * 5 + 3)), .int .i64 (kasN (j * 5 + 4))]) W from fun j hj W => by
    rw [hZ]; exact index_kas kasN j hj W)
  have s0 : (0 : Int) ≤ f := by omega
  have s1 : (f : Int) < 64 := by omega
  have HZ := Lib.hid hZ
  have HG := Lib.hid hg
  have HI := Lib.hid (KS.begin (f : Int) (t : Int) k hp)
  have HXX := Lib.hid (show ∀ j, csX P f t j = ((bits .and .i64 (P 129) (kasN (j * 5)) != 0) && ((f : Int) == kasN (j * 5 + 2)) && ((t : Int) == kasN (j * 5 + 3)) && pe (P (f * 2)) (P (f * 2 + 1)) 6 (kasN (j * 5 + 1))) from fun j => by unfold csX; rw [Nat.mul_comm f 2])
  have HN := Lib.hid (csI_next P f t)
  have HF1 := Lib.hid (csI_first P f t)
  have HC := Lib.hid (show ∀ W, PB W b P → W.cell? ⟨b, 129, none⟩ = some (.int .i64 (P 129)) ∧ W.cell? ⟨b, f * 2, none⟩ = some (.int .i64 (P (f * 2))) ∧ W.cell? ⟨b, f * 2 + 1, none⟩ = some (.int .i64 (P (f * 2 + 1))) from fun W h => ⟨h.cell 129 (by omega), h.cell _ (by omega), h.cell _ (by omega)⟩)
  generalize P 129 = c at *
  generalize P (f * 2) = pk at *
  generalize P (f * 2 + 1) = pd at *
  clear hZ hp hg
  go_enter Tryz.func192, Tryz.ntmps192
  go_upto_region 1 with (fail)
  refine forget_B (fun W => KS w W b P f t k) HI.out ?_
  clear HI
  intro W hi
  have HI := Lib.hid hi
  clear hi
  go_wp2_with (refine wpList_kas (by rfl) _ (by rfl) Z HZ.out (by rfl) B (HG.out.below (HI.out.b.mono hB)) ?_)
  go_loopw [10] (fun i wr => ∃ j : Nat, j ≤ 4 ∧ i = .int .i64 (j : Int) ∧ KS w wr b P f t k ∧ csI P f t j = none) (fun i _ => 4 - (intOf i).toNat)
  case atStart => exact ⟨0, Nat.zero_le _, rfl, HI.out, rfl⟩
  case round =>
    clear HI
    obtain ⟨j, hj, rfl, h1, h2⟩ := hrel
    have HI := Lib.hid h1
    have H2 := Lib.hid h2
    clear h1 h2
    by_cases hlt : j < 4
    · have hix := HIX.out j hlt
      have hxx := HXX.out j
      have HNX := Lib.hid (HN.out j H2.out)
      have HFX := Lib.hid (fun h => HF1.out j 4 H2.out h hlt)
      have HRR := Lib.hid (show csR (some j) = .tuple #[.agg #[.int .i64 (kasN (j * 5)), .int .i64 (kasN (j * 5 + 1)), .int .i64 (kasN (j * 5 + 2)), .int .i64 (kasN (j * 5 + 3)), .int .i64 (kasN (j * 5 + 4))], .bool true] from rfl)
      generalize kasN (j * 5) = y1 at *
      generalize kasN (j * 5 + 1) = y2 at *
      generalize kasN (j * 5 + 2) = y3 at *
      generalize kasN (j * 5 + 3) = y4 at *
      generalize kasN (j * 5 + 4) = y5 at *
      obtain ⟨x, hx⟩ : ∃ x, bits .and .i64 c y1 = x := ⟨_, rfl⟩
      rw [hx] at hxx
      have HX := Lib.hid hxx
      clear hxx
      go_upto_region 5 with (fail)
      refine forget_B (fun W => KS w W b P f t k ∧ W.heap[wr.heap.size]? = some (.cells #[.int .i64 y1, .int .i64 y2, .int .i64 y3, .int .i64 y4, .int .i64 y5] 198 (0, 0)) ∧ W.heap[wr.heap.size + 1]? = some (.cells #[.int .i64 6, .int .i64 y2] 25 (0, 0)))
        ⟨HI.out.go (two_at wr _ _).2.2.1, (two_at wr _ _).1, (two_at wr _ _).2.1⟩ ?_
      clear hix HI
      rintro W3 ⟨h1, h2, h3⟩
      obtain ⟨e1, e2, e3⟩ := HC.out _ h1.p
      replace e1 := cell_regrown e1
      replace e2 := cell_regrown e2
      replace e3 := cell_regrown e3
      obtain ⟨m0, m1, m2, mf, mz⟩ := row3 h1.m
      replace m0 := cell_regrown m0
      replace m1 := cell_regrown m1
      obtain ⟨v1, v2, v3, v4, v5⟩ := row5 h2
      have HV5 := Lib.hid h2
      replace v1 := cell_regrown v1
      replace v3 := cell_regrown v3
      replace v4 := cell_regrown v4
      have u1 := cell_regrown (row2 h3).1
      have u2 := cell_regrown (row2 h3).2.1
      have HI := Lib.hid h1
      clear h1 h2 h3 m2 mf mz v2 v5
      have fin : csX P f t j = false → ∀ q : Regrown, KS w (grow (redrawn W3 q.d) q.os) b P f t k ∧ csI P f t (j + 1) = none := fun h q => ⟨HI.out.go (below_regrown W3 q.d q.os), HNX.out h⟩
      have FIN := Lib.hid fin
      clear fin
      by_cases hx0 : x = 0
      · subst hx0
        have HSX := Lib.hid (FIN.out (by rw [HX.out]; rfl))
        refine wp_region_quiet_below (by kernel_rfl) (by kernel_rfl) ?_
        repeat (first | go_big_quiet_step (fail) | quiet_step (fail))
        refine wpQuiet_nil ?_
        rintro W4 ⟨q, rfl⟩
        go_wp2
        go_roundw
        case rel => exact ⟨j + 1, by omega, by go_num, HSX.out q⟩
        case measure => simp [intOf]; omega
      have hx2 : (x != 0) = true := by simp [hx0]
      rw [hx2] at HX
      by_cases h3 : (f : Int) = y3
      · subst h3
        have h3b : ((f : Int) == (f : Int)) = true := by simp
        rw [h3b] at HX
        clear h3b
        by_cases h4 : (t : Int) = y4
        · subst h4
          have h4b : ((t : Int) == (t : Int)) = true := by simp
          rw [h4b] at HX
          clear h4b
          obtain ⟨pp, hpp⟩ : ∃ p, pe pk pd 6 y2 = p := ⟨_, rfl⟩
          rw [hpp] at HX
          cases pp
          · have HSX := Lib.hid (FIN.out (by rw [HX.out]; rfl))
            refine wp_region_quiet_below (by kernel_rfl) (by kernel_rfl) ?_
            repeat (first | go_big_quiet_step (fail) | quiet_step (fail))
            refine wpQuiet_nil ?_
            rintro W4 ⟨q, rfl⟩
            go_wp2
            go_roundw
            case rel => exact ⟨j + 1, by omega, by go_num, HSX.out q⟩
            case measure => simp [intOf]; omega
          · have HEN := Lib.hid (HFX.out (by rw [HX.out]; rfl))
            refine wp_region_quiet_below (by kernel_rfl) (by kernel_rfl) ?_
            repeat (first | go_big_quiet_step (fail) | quiet_step (fail))
            refine wpQuiet_nil ?_
            rintro W4 ⟨q, rfl⟩
            clear e1 e2 e3 m0 m1 v1 v3 v4 u1 u2
            have hv5 := sl_go HV5.out (below_regrown W3 q.d q.os)
            replace HI := Lib.hid (HI.out.go (below_regrown W3 q.d q.os))
            generalize grow (redrawn W3 q.d) q.os = W4 at *
            obtain ⟨v1, v2, v3, v4, v5⟩ := row5 hv5
            obtain ⟨z1, z2, z3, z4, z5⟩ := row5 HI.out.z
            have zf : ∀ i, W4.frozen? ⟨w.heap.size + 1, i, none⟩ = false := fun i => frozen_of_row W4 (w.heap.size + 1) i _ _ HI.out.z
            have hput := put5 (.int .i64 y1) (.int .i64 y2) (.int .i64 (f : Int)) (.int .i64 (t : Int)) (.int .i64 y5) HI.out.z
            have hbel := below_put5 (H := w.heap.size + 1) (.int .i64 y1) (.int .i64 y2) (.int .i64 (f : Int)) (.int .i64 (t : Int)) (.int .i64 y5) HI.out.b (by omega)
            have HPUT := Lib.hid hput
            have HBEL := Lib.hid hbel
            clear hput hbel hv5
            go_wp2
            rw [HEN.out, HRR.out]
            refine bodyPost_ret (v := .tuple #[.agg [.int .i64 y1, .int .i64 y2, .int .i64 (f : Int), .int .i64 (t : Int), .int .i64 y5].toArray, .bool true]) ?_ rfl ⟨rfl, HBEL.out⟩
            exact results_mid2 (p := 4) (u := 5) (ty := 198) rfl _ _ (w.heap.size + 1) _ _ _ rfl rfl (range5 HPUT.out) Tryz.underlying198 rfl (by rw [infoKas]; rfl)
        · have h4b : ((t : Int) == y4) = false := by simp [h4]
          rw [h4b] at HX
          have HSX := Lib.hid (FIN.out (by rw [HX.out]; simp))
          refine wp_region_quiet_below (by kernel_rfl) (by kernel_rfl) ?_
          repeat (first | go_big_quiet_step (fail) | quiet_step (fail))
          refine wpQuiet_nil ?_
          rintro W4 ⟨q, rfl⟩
          go_wp2
          go_roundw
          case rel => exact ⟨j + 1, by omega, by go_num, HSX.out q⟩
          case measure => simp [intOf]; omega
      · have h3b : ((f : Int) == y3) = false := by simp [h3]
        rw [h3b] at HX
        have HSX := Lib.hid (FIN.out (by rw [HX.out]; simp))
        refine wp_region_quiet_below (by kernel_rfl) (by kernel_rfl) ?_
        repeat (first | go_big_quiet_step (fail) | quiet_step (fail))
        refine wpQuiet_nil ?_
        rintro W4 ⟨q, rfl⟩
        go_wp2
        go_roundw
        case rel => exact ⟨j + 1, by omega, by go_num, HSX.out q⟩
        case measure => simp [intOf]; omega
    · obtain rfl : j = 4 := by omega
      obtain ⟨z1, z2, z3, z4, z5⟩ := row5 HI.out.z
      have zf : ∀ i, wr.frozen? ⟨w.heap.size + 1, i, none⟩ = false := fun i => frozen_of_row wr (w.heap.size + 1) i _ _ HI.out.z
      have HPUT := Lib.hid (put5 (.int .i64 0) (.int .i64 0) (.int .i64 0) (.int .i64 0) (.int .i64 0) HI.out.z)
      have HBEL := Lib.hid (below_put5 (H := w.heap.size + 1) (.int .i64 0) (.int .i64 0) (.int .i64 0) (.int .i64 0) (.int .i64 0) HI.out.b (by omega))
      go_wp2
      rw [H2.out]
      refine bodyPost_ret (v := .tuple #[.agg [.int .i64 0, .int .i64 0, .int .i64 0, .int .i64 0, .int .i64 0].toArray, .bool false]) ?_ rfl ⟨rfl, HBEL.out⟩
      exact results_mid2 (p := 4) (u := 5) (ty := 198) rfl _ _ (w.heap.size + 1) _ _ _ rfl rfl (range5 HPUT.out) Tryz.underlying198 rfl (by rw [infoKas]; rfl)
end Go.Proofs.YtkncfeijlmomaaaGreatDoor
