/-
  Contracts: a hand puts a piece, and a rook.
-/
import Derived.Test.YtjhlombbkodpaaaDoorG17
namespace Go.Proofs.YtjhlombbkodpaaaDoor
open Go.RowKit Go.Sort
set_option linter.unusedSimpArgs false
set_option linter.unusedVariables false
set_option maxRecDepth 20000

/-- what stands while a piece is put -/
structure HT (w W : World) (blk : Nat) (Q : Nat → Int) (f t k kk dd : Int) : Prop where
  h : HG w W blk Q
  m : W.heap[w.heap.size]? = some (.cells #[.int .i64 f, .int .i64 t, .int .i64 k] 31 (0, 0))
  x : W.heap[w.heap.size + 1]? = some (.cells #[.int .i64 kk, .int .i64 dd] 25 (0, 0))
  s : blk < w.heap.size
theorem HT.go {w W W' : World} {blk : Nat} {Q : Nat → Int} {f t k kk dd : Int} (h : HT w W blk Q f t k kk dd) (g : Below W.heap.size W W') : HT w W' blk Q f t k kk dd :=
  ⟨h.h.go g, sl_go h.m g, sl_go h.x g, h.s⟩
theorem HT.pt {w W : World} {blk : Nat} {Q : Nat → Int} {f t k kk dd : Int} (h : HT w W blk Q f t k kk dd) (m : Nat) (a c : Int) (hm : m < 64) :
    HT w ((W.setCell ⟨blk, m * 2, none⟩ (.int .i64 a)).setCell ⟨blk, m * 2 + 1, none⟩ (.int .i64 c)) blk (ptN Q m a c) f t k kk dd := by
  have hs := h.s
  exact ⟨h.h.pt m a c hm, (Go.heap_setCell_other _ _ _ _ (by simp; omega)).trans ((Go.heap_setCell_other _ _ _ _ (by simp; omega)).trans h.m), (Go.heap_setCell_other _ _ _ _ (by simp; omega)).trans ((Go.heap_setCell_other _ _ _ _ (by simp; omega)).trans h.x), hs⟩
theorem HT.kind {w W : World} {blk : Nat} {Q : Nat → Int} {f t k kk dd : Int} (h : HT w W blk Q f t k kk dd) (a : Int) :
    HT w (W.setCell ⟨w.heap.size + 1, 0, none⟩ (.int .i64 a)) blk Q f t k a dd := by
  have hs := h.s
  refine ⟨⟨h.h.q.other (by omega) _ _, ?_⟩, (Go.heap_setCell_other _ _ _ _ (by simp)).trans h.m, Go.heap_setCell_same _ _ 0 _ _ _ h.x, hs⟩
  exact ⟨h.h.g.os, h.h.g.tape, h.h.g.output, by rw [World.size_setCell]; exact h.h.g.size, fun i hi hne => by
    rw [Go.heap_setCell_other _ _ _ _ (by simp; omega)]; exact h.h.g.block i hi hne⟩
theorem HT.begin {w : World} {blk : Nat} {P : Nat → Int} (f t k kk dd : Int) (h : PB w blk P) :
    HT w ((w.alloc (.cells #[.int .i64 f, .int .i64 t, .int .i64 k] 31)).alloc (.cells #[.int .i64 kk, .int .i64 dd] 25)) blk P f t k kk dd := by
  obtain ⟨a1, a2, a3, a4⟩ := two_at w (.cells #[.int .i64 f, .int .i64 t, .int .i64 k] 31) (.cells #[.int .i64 kk, .int .i64 dd] 25)
  exact ⟨⟨h.go a3, gr_of_below _ a3⟩, a1, a2, h.lt⟩
/-- a piece put by a move -/
def putM (P : Nat → Int) (f t : Nat) (k tk : Int) : Nat → Int :=
  ptN (if tk == -1 then ptN P f 0 0 else ptN (ptN P f 0 0) tk.toNat 0 0) t (if k == 0 then P (2 * f) else k) (P (2 * f + 1))
set_option maxHeartbeats 2000000 in
theorem putH_any (b : Nat) (P : Nat → Int) (f t : Nat) (k tk : Int) (hf : f < 64) (ht : t < 64) (htk : tk = -1 ∨ ∃ n : Nat, tk = n ∧ n < 64) (w : World) (hp : PB w b P) :
    Calls Tryd.prog 55 #[.pointer (some ⟨b, 0, none⟩), .agg #[.int .i64 (f : Int), .int .i64 (t : Int), .int .i64 k], .int .i64 tk] w fun e w' => e = .returned (.tuple #[]) ∧ HG w w' b (putM P f t k tk) := by
  have s0 : (0 : Int) ≤ f := by omega
  have s1 : (f : Int) < 64 := by omega
  have t0 : (0 : Int) ≤ t := by omega
  have t1 : (t : Int) < 64 := by omega
  have hv : putM P f t k tk = ptN (if tk == -1 then ptN P f 0 0 else ptN (ptN P f 0 0) tk.toNat 0 0) t (if k == 0 then P (f * 2) else k) (P (f * 2 + 1)) := by unfold putM; rw [Nat.mul_comm 2 f]
  have y1 := (hp.alloc (.cells #[.int .i64 (f : Int), .int .i64 (t : Int), .int .i64 k] 31)).cell (f * 2) (by omega)
  have y2 := (hp.alloc (.cells #[.int .i64 (f : Int), .int .i64 (t : Int), .int .i64 k] 31)).cell (f * 2 + 1) (by omega)
  have hlt := hp.lt
  have HP := Lib.hid hp
  obtain ⟨kk, hkk⟩ : ∃ x, P (f * 2) = x := ⟨_, rfl⟩
  obtain ⟨dd, hdd⟩ : ∃ x, P (f * 2 + 1) = x := ⟨_, rfl⟩
  rw [hkk] at y1 hv
  rw [hdd] at y2 hv
  have HI := Lib.hid (HT.begin (f : Int) (t : Int) k kk dd hp)
  have HV := Lib.hid hv
  clear hv hkk hdd hp
  go_enter Tryd.func55, Tryd.ntmps55
  go_upto_region 1 with (fail)
  go_region
  generalize hW0 : (w.alloc (.cells #[.int .i64 (f : Int), .int .i64 (t : Int), .int .i64 k] 31)).alloc (.cells #[.int .i64 kk, .int .i64 dd] 25) = W0 at HI ⊢
  replace HI := Lib.hid (HI.out.go (Below.refl W0.heap.size W0).drew)
  generalize W0.drew = W1 at HI ⊢
  clear y1 y2 HP hW0 W0
  obtain ⟨kb, hkb⟩ : ∃ kb, (if k == 0 then kk else k) = kb := ⟨_, rfl⟩
  rw [hkb] at HV
  have HKB := Lib.hid (show ∀ W, HT w W b P f t k kk dd → k = 0 → HT w W b P f t k kb dd from fun W h hk => by subst hk; have : kb = kk := by rw [← hkb]; rfl
                                                                                                               rw [this]; exact h)
  have HKC := Lib.hid (show ¬ k = 0 → k = kb from fun h => by rw [← hkb]; simp [h])
  clear hkb
  obtain ⟨x0, x1, x2, xf, xz⟩ := row3 HI.out.m
  by_cases hk0 : k = 0
  · replace HI := Lib.hid (HKB.out _ HI.out hk0)
    have hk1 : (k != 0) = false := by simp [hk0]
    go_upto_region 4 with (fail)
    clear x0 x1 x2 xf xz
    refine forget_B (fun W => HT w W b P f t k kb dd) HI.out ?_
    clear HI HKB HKC
    intro W2 hi
    have HI := Lib.hid hi
    clear hi
    obtain ⟨x0, x1, x2, xf, xz⟩ := row3 HI.out.m
    replace x0 := cell_regrown x0
    replace x1 := cell_regrown x1
    obtain ⟨z1, z2, zf, zz⟩ := row2 HI.out.x
    replace z1 := cell_regrown z1
    replace z2 := cell_regrown z2
    clear x2 xf xz zf zz
    refine wp_region_quiet_store 8 (by kernel_rfl) rfl rfl (by kernel_rfl) (by kernel_rfl) (C := fun W' => ∃ p : Regrown, W' = grow (redrawn W2 p.d) p.os) (regrown_self _) ?_
    simp only [List.take_succ_cons, List.take_zero]
    repeat (quiet_step (fail))
    refine wpQuiet_nil ?_
    rintro W4 ⟨q, rfl⟩
    refine ⟨by rfl, ?_⟩
    replace HI := Lib.hid (HI.out.go (below_regrown W2 q.d q.os))
    clear x0 x1 z1 z2
    generalize grow (redrawn W2 q.d) q.os = W4 at HI ⊢
    have e1 := HI.out.h.q.cell (f * 2) (by omega)
    have e2 := HI.out.h.q.cell (f * 2 + 1) (by omega)
    have e3 := HI.out.h.q.fr (f * 2)
    have e4 := HI.out.h.q.fr (f * 2 + 1)
    go_simp
    clear e1 e2 e3 e4
    replace HI := Lib.hid (HI.out.pt f 0 0 hf)
    generalize (W4.setCell ⟨b, f * 2, none⟩ (.int .i64 0)).setCell ⟨b, f * 2 + 1, none⟩ (.int .i64 0) = W5 at HI ⊢
    rcases htk with rfl | ⟨n, rfl, hn⟩
    · go_upto_region 7 with (fail)
      obtain ⟨x0, x1, x2, xf, xz⟩ := row3 HI.out.m
      replace x0 := cell_regrown x0
      replace x1 := cell_regrown x1
      obtain ⟨z1, z2, zf, zz⟩ := row2 HI.out.x
      replace z1 := cell_regrown z1
      replace z2 := cell_regrown z2
      clear x2 xf xz zf zz
      refine wp_region_quiet_store 8 (by kernel_rfl) rfl rfl (by kernel_rfl) (by kernel_rfl) (C := fun W' => ∃ p : Regrown, W' = grow (redrawn W5 p.d) p.os) (regrown_self _) ?_
      simp only [List.take_succ_cons, List.take_zero]
      repeat (quiet_step (fail))
      refine wpQuiet_nil ?_
      rintro W4 ⟨q, rfl⟩
      refine ⟨by rfl, ?_⟩
      replace HI := Lib.hid (HI.out.go (below_regrown W5 q.d q.os))
      clear x0 x1 z1 z2
      generalize grow (redrawn W5 q.d) q.os = W4 at HI ⊢
      have e1 := HI.out.h.q.cell (t * 2) (by omega)
      have e2 := HI.out.h.q.cell (t * 2 + 1) (by omega)
      have e3 := HI.out.h.q.fr (t * 2)
      have e4 := HI.out.h.q.fr (t * 2 + 1)
      go_simp
      clear e1 e2 e3 e4
      have HF := Lib.hid ((HI.out.pt t kb dd ht).h)
      go_wp2
      go_end0
      exact ⟨rfl, by rw [HV.out]; exact HF.out⟩
    · have n0 : (0 : Int) ≤ n := by omega
      have n1 : (n : Int) < 64 := by omega
      have nn : ((n : Int) != -1) = true := by simp <;> omega
      have nn2 : ((n : Int) == -1) = false := by simp <;> omega
      have e1 := HI.out.h.q.cell (n * 2) (by omega)
      have e2 := HI.out.h.q.cell (n * 2 + 1) (by omega)
      have e3 := HI.out.h.q.fr (n * 2)
      have e4 := HI.out.h.q.fr (n * 2 + 1)
      rw [nn2, Int.toNat_natCast] at HV
      go_upto_region 7 with (fail)
      clear e1 e2 e3 e4
      replace HI := Lib.hid (HI.out.pt n 0 0 hn)
      generalize (W5.setCell ⟨b, n * 2, none⟩ (.int .i64 0)).setCell ⟨b, n * 2 + 1, none⟩ (.int .i64 0) = W6 at HI ⊢
      obtain ⟨x0, x1, x2, xf, xz⟩ := row3 HI.out.m
      replace x0 := cell_regrown x0
      replace x1 := cell_regrown x1
      obtain ⟨z1, z2, zf, zz⟩ := row2 HI.out.x
      replace z1 := cell_regrown z1
      replace z2 := cell_regrown z2
      clear x2 xf xz zf zz
      refine wp_region_quiet_store 8 (by kernel_rfl) rfl rfl (by kernel_rfl) (by kernel_rfl) (C := fun W' => ∃ p : Regrown, W' = grow (redrawn W6 p.d) p.os) (regrown_self _) ?_
      simp only [List.take_succ_cons, List.take_zero]
      repeat (quiet_step (fail))
      refine wpQuiet_nil ?_
      rintro W4 ⟨q, rfl⟩
      refine ⟨by rfl, ?_⟩
      replace HI := Lib.hid (HI.out.go (below_regrown W6 q.d q.os))
      clear x0 x1 z1 z2
      generalize grow (redrawn W6 q.d) q.os = W4 at HI ⊢
      have e1 := HI.out.h.q.cell (t * 2) (by omega)
      have e2 := HI.out.h.q.cell (t * 2 + 1) (by omega)
      have e3 := HI.out.h.q.fr (t * 2)
      have e4 := HI.out.h.q.fr (t * 2 + 1)
      go_simp
      clear e1 e2 e3 e4
      have HF := Lib.hid ((HI.out.pt t kb dd ht).h)
      go_wp2
      go_end0
      exact ⟨rfl, by rw [HV.out]; exact HF.out⟩
  · have hk1 : (k != 0) = true := by simp [hk0]
    obtain ⟨z1, z2, zf, zz⟩ := row2 HI.out.x
    go_upto_region 4 with (fail)
    clear x0 x1 x2 xf xz z1 z2 zf zz
    refine forget_B (fun W => HT w W b P f t k k dd) (HI.out.kind k) ?_
    rw [HKC.out hk0]
    clear HI HKB HKC
    intro W2 hi
    have HI := Lib.hid hi
    clear hi
    obtain ⟨x0, x1, x2, xf, xz⟩ := row3 HI.out.m
    replace x0 := cell_regrown x0
    replace x1 := cell_regrown x1
    obtain ⟨z1, z2, zf, zz⟩ := row2 HI.out.x
    replace z1 := cell_regrown z1
    replace z2 := cell_regrown z2
    clear x2 xf xz zf zz
    refine wp_region_quiet_store 8 (by kernel_rfl) rfl rfl (by kernel_rfl) (by kernel_rfl) (C := fun W' => ∃ p : Regrown, W' = grow (redrawn W2 p.d) p.os) (regrown_self _) ?_
    simp only [List.take_succ_cons, List.take_zero]
    repeat (quiet_step (fail))
    refine wpQuiet_nil ?_
    rintro W4 ⟨q, rfl⟩
    refine ⟨by rfl, ?_⟩
    replace HI := Lib.hid (HI.out.go (below_regrown W2 q.d q.os))
    clear x0 x1 z1 z2
    generalize grow (redrawn W2 q.d) q.os = W4 at HI ⊢
    have e1 := HI.out.h.q.cell (f * 2) (by omega)
    have e2 := HI.out.h.q.cell (f * 2 + 1) (by omega)
    have e3 := HI.out.h.q.fr (f * 2)
    have e4 := HI.out.h.q.fr (f * 2 + 1)
    go_simp
    clear e1 e2 e3 e4
    replace HI := Lib.hid (HI.out.pt f 0 0 hf)
    generalize (W4.setCell ⟨b, f * 2, none⟩ (.int .i64 0)).setCell ⟨b, f * 2 + 1, none⟩ (.int .i64 0) = W5 at HI ⊢
    rcases htk with rfl | ⟨n, rfl, hn⟩
    · go_upto_region 7 with (fail)
      obtain ⟨x0, x1, x2, xf, xz⟩ := row3 HI.out.m
      replace x0 := cell_regrown x0
      replace x1 := cell_regrown x1
      obtain ⟨z1, z2, zf, zz⟩ := row2 HI.out.x
      replace z1 := cell_regrown z1
      replace z2 := cell_regrown z2
      clear x2 xf xz zf zz
      refine wp_region_quiet_store 8 (by kernel_rfl) rfl rfl (by kernel_rfl) (by kernel_rfl) (C := fun W' => ∃ p : Regrown, W' = grow (redrawn W5 p.d) p.os) (regrown_self _) ?_
      simp only [List.take_succ_cons, List.take_zero]
      repeat (quiet_step (fail))
      refine wpQuiet_nil ?_
      rintro W4 ⟨q, rfl⟩
      refine ⟨by rfl, ?_⟩
      replace HI := Lib.hid (HI.out.go (below_regrown W5 q.d q.os))
      clear x0 x1 z1 z2
      generalize grow (redrawn W5 q.d) q.os = W4 at HI ⊢
      have e1 := HI.out.h.q.cell (t * 2) (by omega)
      have e2 := HI.out.h.q.cell (t * 2 + 1) (by omega)
      have e3 := HI.out.h.q.fr (t * 2)
      have e4 := HI.out.h.q.fr (t * 2 + 1)
      go_simp
      clear e1 e2 e3 e4
      have HF := Lib.hid ((HI.out.pt t kb dd ht).h)
      go_wp2
      go_end0
      exact ⟨rfl, by rw [HV.out]; exact HF.out⟩
    · have n0 : (0 : Int) ≤ n := by omega
      have n1 : (n : Int) < 64 := by omega
      have nn : ((n : Int) != -1) = true := by simp <;> omega
      have nn2 : ((n : Int) == -1) = false := by simp <;> omega
      have e1 := HI.out.h.q.cell (n * 2) (by omega)
      have e2 := HI.out.h.q.cell (n * 2 + 1) (by omega)
      have e3 := HI.out.h.q.fr (n * 2)
      have e4 := HI.out.h.q.fr (n * 2 + 1)
      rw [nn2, Int.toNat_natCast] at HV
      go_upto_region 7 with (fail)
      clear e1 e2 e3 e4
      replace HI := Lib.hid (HI.out.pt n 0 0 hn)
      generalize (W5.setCell ⟨b, n * 2, none⟩ (.int .i64 0)).setCell ⟨b, n * 2 + 1, none⟩ (.int .i64 0) = W6 at HI ⊢
      obtain ⟨x0, x1, x2, xf, xz⟩ := row3 HI.out.m
      replace x0 := cell_regrown x0
      replace x1 := cell_regrown x1
      obtain ⟨z1, z2, zf, zz⟩ := row2 HI.out.x
      replace z1 := cell_regrown z1
      replace z2 := cell_regrown z2
      clear x2 xf xz zf zz
      refine wp_region_quiet_store 8 (by kernel_rfl) rfl rfl (by kernel_rfl) (by kernel_rfl) (C := fun W' => ∃ p : Regrown, W' = grow (redrawn W6 p.d) p.os) (regrown_self _) ?_
      simp only [List.take_succ_cons, List.take_zero]
      repeat (quiet_step (fail))
      refine wpQuiet_nil ?_
      rintro W4 ⟨q, rfl⟩
      refine ⟨by rfl, ?_⟩
      replace HI := Lib.hid (HI.out.go (below_regrown W6 q.d q.os))
      clear x0 x1 z1 z2
      generalize grow (redrawn W6 q.d) q.os = W4 at HI ⊢
      have e1 := HI.out.h.q.cell (t * 2) (by omega)
      have e2 := HI.out.h.q.cell (t * 2 + 1) (by omega)
      have e3 := HI.out.h.q.fr (t * 2)
      have e4 := HI.out.h.q.fr (t * 2 + 1)
      go_simp
      clear e1 e2 e3 e4
      have HF := Lib.hid ((HI.out.pt t kb dd ht).h)
      go_wp2
      go_end0
      exact ⟨rfl, by rw [HV.out]; exact HF.out⟩
theorem row5 {W : World} {H : Nat} {a b c d e : Value} {t : TypeId} (h : W.heap[H]? = some (.cells #[a, b, c, d, e] t (0, 0))) :
    W.cell? ⟨H, 0, none⟩ = some a ∧ W.cell? ⟨H, 1, none⟩ = some b ∧ W.cell? ⟨H, 2, none⟩ = some c ∧ W.cell? ⟨H, 3, none⟩ = some d ∧ W.cell? ⟨H, 4, none⟩ = some e :=
  ⟨by rw [cell_of_row W H 0 _ _ (0, 0) h]; rfl, by rw [cell_of_row W H 1 _ _ (0, 0) h]; rfl, by rw [cell_of_row W H 2 _ _ (0, 0) h]; rfl, by rw [cell_of_row W H 3 _ _ (0, 0) h]; rfl, by rw [cell_of_row W H 4 _ _ (0, 0) h]; rfl⟩
/-- what stands while a rook is put -/
structure HK (w W : World) (blk : Nat) (Q : Nat → Int) (f t k c1 c2 c3 c4 c5 : Int) : Prop where
  h : HG w W blk Q
  m : W.heap[w.heap.size]? = some (.cells #[.int .i64 f, .int .i64 t, .int .i64 k] 31 (0, 0))
  x : W.heap[w.heap.size + 1]? = some (.cells #[.int .i64 c1, .int .i64 c2, .int .i64 c3, .int .i64 c4, .int .i64 c5] 83 (0, 0))
  s : blk < w.heap.size
theorem HK.go {w W W' : World} {blk : Nat} {Q : Nat → Int} {f t k c1 c2 c3 c4 c5 : Int} (h : HK w W blk Q f t k c1 c2 c3 c4 c5) (g : Below W.heap.size W W') : HK w W' blk Q f t k c1 c2 c3 c4 c5 :=
  ⟨h.h.go g, sl_go h.m g, sl_go h.x g, h.s⟩
theorem HK.pt {w W : World} {blk : Nat} {Q : Nat → Int} {f t k c1 c2 c3 c4 c5 : Int} (h : HK w W blk Q f t k c1 c2 c3 c4 c5) (m : Nat) (a c : Int) (hm : m < 64) :
    HK w ((W.setCell ⟨blk, m * 2, none⟩ (.int .i64 a)).setCell ⟨blk, m * 2 + 1, none⟩ (.int .i64 c)) blk (ptN Q m a c) f t k c1 c2 c3 c4 c5 := by
  have hs := h.s
  exact ⟨h.h.pt m a c hm, (Go.heap_setCell_other _ _ _ _ (by simp; omega)).trans ((Go.heap_setCell_other _ _ _ _ (by simp; omega)).trans h.m), (Go.heap_setCell_other _ _ _ _ (by simp; omega)).trans ((Go.heap_setCell_other _ _ _ _ (by simp; omega)).trans h.x), hs⟩
theorem HK.begin {w : World} {blk : Nat} {P : Nat → Int} (f t k c1 c2 c3 c4 c5 : Int) (h : PB w blk P) :
    HK w ((w.alloc (.cells #[.int .i64 f, .int .i64 t, .int .i64 k] 31)).alloc (.cells #[.int .i64 c1, .int .i64 c2, .int .i64 c3, .int .i64 c4, .int .i64 c5] 83)) blk P f t k c1 c2 c3 c4 c5 := by
  obtain ⟨a1, a2, a3, a4⟩ := two_at w (.cells #[.int .i64 f, .int .i64 t, .int .i64 k] 31) (.cells #[.int .i64 c1, .int .i64 c2, .int .i64 c3, .int .i64 c4, .int .i64 c5] 83)
  exact ⟨⟨h.go a3, gr_of_below _ a3⟩, a1, a2, h.lt⟩
/-- a rook put by a castling -/
def rookN (P : Nat → Int) (f t : Nat) (d : Int) (c : Nat) : Nat → Int := ptN (ptN P c 0 0) ((f + t) / 2) 4 d
set_option maxHeartbeats 2000000 in
theorem putRook_any (b : Nat) (P : Nat → Int) (f t c : Nat) (k c1 d c3 c4 : Int) (hf : f < 64) (ht : t < 64) (hc : c < 64) (w : World) (hp : PB w b P) :
    Calls Tryd.prog 56 #[.pointer (some ⟨b, 0, none⟩), .agg #[.int .i64 (f : Int), .int .i64 (t : Int), .int .i64 k], .agg #[.int .i64 c1, .int .i64 d, .int .i64 c3, .int .i64 c4, .int .i64 (c : Int)]] w fun e w' => e = .returned (.tuple #[]) ∧ HG w w' b (rookN P f t d c) := by
  have s0 : (0 : Int) ≤ c := by omega
  have s1 : (c : Int) < 64 := by omega
  obtain ⟨m, hm⟩ : ∃ m, (f + t) / 2 = m := ⟨_, rfl⟩
  have m64 : m < 64 := by omega
  have m0 : (0 : Int) ≤ m := by omega
  have m1 : (m : Int) < 64 := by omega
  have M1 := Lib.hid (fun W => betweenP_any f t k hf ht W)
  rw [hm] at M1
  have HV := Lib.hid (show rookN P f t d c = ptN (ptN P c 0 0) m 4 d by unfold rookN; rw [hm])
  have HI := Lib.hid (HK.begin (f : Int) (t : Int) k c1 d c3 c4 (c : Int) hp)
  clear hp hm
  go_enter Tryd.func56, Tryd.ntmps56
  go_upto_region 1 with (fail)
  refine forget_B (fun W => HK w W b P f t k c1 d c3 c4 c) HI.out ?_
  clear HI
  intro W2 hi
  have HI := Lib.hid hi
  clear hi
  have z5 := cell_regrown (row5 HI.out.x).2.2.2.2
  refine wp_region_quiet_store 8 (by kernel_rfl) rfl rfl (by kernel_rfl) (by kernel_rfl) (C := fun W' => ∃ p : Regrown, W' = grow (redrawn W2 p.d) p.os) (regrown_self _) ?_
  simp only [List.take_succ_cons, List.take_zero]
  repeat (quiet_step (fail))
  refine wpQuiet_nil ?_
  rintro W4 ⟨q, rfl⟩
  refine ⟨by rfl, ?_⟩
  replace HI := Lib.hid (HI.out.go (below_regrown W2 q.d q.os))
  clear z5
  generalize grow (redrawn W2 q.d) q.os = W4 at HI ⊢
  have e1 := HI.out.h.q.cell (c * 2) (by omega)
  have e2 := HI.out.h.q.cell (c * 2 + 1) (by omega)
  have e3 := HI.out.h.q.fr (c * 2)
  have e4 := HI.out.h.q.fr (c * 2 + 1)
  go_simp
  clear e1 e2 e3 e4
  replace HI := Lib.hid (HI.out.pt c 0 0 hc)
  generalize (W4.setCell ⟨b, c * 2, none⟩ (.int .i64 0)).setCell ⟨b, c * 2 + 1, none⟩ (.int .i64 0) = W5 at HI ⊢
  go_upto_region 2 with (fail)
  obtain ⟨x0, x1, x2, xf, xz⟩ := row3 HI.out.m
  replace x0 := cell_regrown x0
  replace x1 := cell_regrown x1
  replace x2 := cell_regrown x2
  have z2 := cell_regrown (row5 HI.out.x).2.1
  have cc1 := regrown_call (w := W5) M1.out
  clear xf xz
  refine wp_region_quiet_store 10 (by kernel_rfl) rfl rfl (by kernel_rfl) (by kernel_rfl) (C := fun W' => ∃ p : Regrown, W' = grow (redrawn W5 p.d) p.os) (regrown_self _) ?_
  simp only [List.take_succ_cons, List.take_zero]
  repeat (first | go_big_quiet_step (exact cc1 _ _) | quiet_step (exact cc1 _ _))
  refine wpQuiet_nil ?_
  rintro W6 ⟨q, rfl⟩
  refine ⟨by rfl, ?_⟩
  replace HI := Lib.hid (HI.out.go (below_regrown W5 q.d q.os))
  clear x0 x1 x2 z2 cc1
  generalize grow (redrawn W5 q.d) q.os = W6 at HI ⊢
  have e1 := HI.out.h.q.cell (m * 2) (by omega)
  have e2 := HI.out.h.q.cell (m * 2 + 1) (by omega)
  have e3 := HI.out.h.q.fr (m * 2)
  have e4 := HI.out.h.q.fr (m * 2 + 1)
  have HF := Lib.hid ((HI.out.pt m 4 d m64).h)
  go_simp
  go_wp2
  go_end0
  exact ⟨rfl, by rw [HV.out]; exact HF.out⟩
end Go.Proofs.YtjhlombbkodpaaaDoor
