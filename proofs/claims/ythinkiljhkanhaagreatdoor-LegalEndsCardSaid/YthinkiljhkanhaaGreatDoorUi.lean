/-
  LegalTells: whether a position may be played on, legal moves, rows of them, are what the document tells.
-/
import Derived.Test.YthinkiljhkanhaaGreatDoorUh
namespace Go.Proofs.YthinkiljhkanhaaGreatDoor
open Go.RowKit Go.Sort
set_option linter.unusedSimpArgs false
set_option linter.unusedVariables false
set_option maxRecDepth 20000

theorem yields_binN {ops : Array Oper} {S : World → Prop} {op : Oper} {a : Act} (hw : Region.wanted op (yielded ops a.tmps) = true) (bop : BinOp) (x y : Operand) (t r : TypeId) (ho : op.op = .binOp bop t x y r)
    (v1 v2 v : Value) (hx : a.eval x = v1) (hy : a.eval y = v2) (hg : ∀ W, (eqGuard bop t x y v1 v2).run Tryz.prog W = .ok () W) (h : ∀ W, (binOp bop t v1 v2).run Tryz.prog W = .ok v W) : YieldsIf Tryz.prog ops S op v a :=
  .inl ⟨hw, fun w _ => by unfold execOp; simp [ho, hx, hy, h, hg]⟩
set_option maxHeartbeats 16000000 in
set_option maxRecDepth 100000 in
theorem legalTells_any (P : Nat → Int) (p : Option Addr) (n c : Nat) (F T G : Nat → Int) (w : World) (B : Nat) (hn : n ≤ maxLen) (hr : Reads3 w.heap.size w p n F T G) (hgb : GB B w) (hgs : GS B w) (hgm : GM B w) (hgp : GP B w) (hB : B ≤ w.heap.size) :
    Calls Tryz.prog 3 #[.agg (pc P).toArray, .slice p n c] w fun e w' => e = .returned (.bool true) ∧ Below w.heap.size w w' := by
  unfold maxLen at hn
  obtain ⟨X, hX⟩ : ∃ X, X = (pc P).toArray := ⟨_, rfl⟩
  have AW := Lib.hid (fun W (h : Below w.heap.size w W) => awake10_any W B (hgb.below (h.mono hB)) (hgs.below (h.mono hB)) (hgm.below (h.mono hB)) (hgp.below (h.mono hB)) (Nat.le_trans hB h.size))
  have MP := Lib.hid (fun W (h : Below w.heap.size w W) => position_any P W B (hgb.below (h.mono hB)) (hgs.below (h.mono hB)) (hgm.below (h.mono hB)) (hgp.below (h.mono hB)) (Nat.le_trans hB h.size))
  have RP := Lib.hid (fun W => rPosition_any P W)
  have MM := Lib.hid (fun W (h : Below w.heap.size w W) => lMoves_any P W B (hgb.below (h.mono hB)) (hgs.below (h.mono hB)) (hgm.below (h.mono hB)) (hgp.below (h.mono hB)) (Nat.le_trans hB h.size))
  have RM := Lib.hid (fun W => rMoves10_any P W)
  have MI := Lib.hid (fun f t k W (h : Below w.heap.size w W) => lIs_any P f t k W B (hgb.below (h.mono hB)) (hgs.below (h.mono hB)) (hgm.below (h.mono hB)) (hgp.below (h.mono hB)) (Nat.le_trans hB h.size))
  have RI := Lib.hid (fun f t k W => rIs10_any P f t k W)
  have ML := Lib.hid (fun (hn : n ≤ 100000) p c W (h : Below w.heap.size w W) hr => lPlay_any P F T G p n c hn W B (hgb.below (h.mono hB)) (hgs.below (h.mono hB)) (hgm.below (h.mono hB)) (hgp.below (h.mono hB)) (Nat.le_trans hB h.size) hr)
  have RL := Lib.hid (fun (hn : n ≤ 100000) p c W hr => rPlay10_any P F T G p n c hn W hr)
  obtain ⟨ps, hps⟩ : ∃ b, posB P = b := ⟨_, rfl⟩
  obtain ⟨Z, hZ⟩ : ∃ Z, plP P F T G n = Z := ⟨_, rfl⟩
  obtain ⟨er, her⟩ : ∃ Z, plE P F T G n = Z := ⟨_, rfl⟩
  obtain ⟨Y1, hY1⟩ : ∃ Y, Y = (pc Z).toArray := ⟨_, rfl⟩
  obtain ⟨L, hL⟩ : ∃ L, lmM P = L := ⟨_, rfl⟩
  have hll := lm_len P
  rw [hps, ← hX] at MP RP
  rw [hL, ← hX] at MM RM
  rw [hL] at hll
  rw [← hX] at MI RI
  rw [hZ, her, ← hX, ← hY1] at ML RL
  rw [← hX]
  have HX := Lib.hid hX
  have HY1 := Lib.hid hY1
  have HRR := Lib.hid hr
  have HLL := Lib.hid (show L.length ≤ 100000 by omega)
  have HP0 := Lib.hid (pos_box P w X hX 29)
  clear hX hps hZ her hY1 hL hr hll hgb hgs hgm hgp
  by_cases hn2 : 14 < n
  · go_enter Tryz.func3, Tryz.ntmps3
    go_upto_region 1 with (fail)
    refine forget_B (fun W => Below w.heap.size w W) (below_new _) ?_
    clear HP0
    intro W hb
    have H1 := Lib.hid hb
    clear hb
    go_wp2_with fail
    refine (AW.out _ H1.out).mono ?_
    rintro e w1 ⟨rfl, hb⟩
    go_wp2
    go_ret
    exact ⟨rfl, H1.out.trans (hb.mono H1.out.size)⟩
  have hn3 : n ≤ 100000 := by omega
  replace ML := Lib.hid (ML.out hn3)
  replace RL := Lib.hid (RL.out hn3)
  obtain ⟨i2, hi, hk⟩ := infoMv9
  simp only [Prod.mk.injEq] at hk
  obtain ⟨hz0, hz1, hz2⟩ := hk
  go_enter Tryz.func3, Tryz.ntmps3
  go_upto_region 1 with (fail)
  refine forget_B (fun W => PB W w.heap.size P ∧ Below w.heap.size w W ∧ w.heap.size + 1 ≤ W.heap.size) ⟨HP0.out, below_new _, by simp⟩ ?_
  clear HP0
  rintro W ⟨hp, hb, hs⟩
  have HP := Lib.hid hp
  have HBW := Lib.hid hb
  clear hp hb
  go_upto_region 3 with (fail)
  have hown0 : (W.alloc (.cells #[] 41)).ownsRow (w.heap.size + 1) 41 3 (.slice (some ⟨W.heap.size, 0, none⟩) 0 0) 0 [] :=
    ⟨rfl, .inr ⟨W.heap.size, 0, #[], rfl, hs, sl_at rfl, Nat.le_refl _, Nat.zero_le _, rfl, rfl⟩⟩
  obtain ⟨v, w10, hap, hown10, hg10⟩ := append_moves (P := Tryz.prog) (W.alloc (.cells #[] 41)) (w.heap.size + 1) w.heap.size 30 30 41 i2 _ 24 Tryz.underlying30 hi hz0 hz1 hz2 rfl _ hown0 p n c F T G (HRR.out.below (HBW.out.alloc HBW.out.size _)) (by unfold maxLen; omega) (by omega) (by simp; omega)
  obtain ⟨p2, c2, rfl, ho⟩ := owns3_lies hown10
  have hb2 : Below (w.heap.size + 1) W w10 := (((below_new (w := W) (.cells #[] 41)).mono hs)).grown hg10 (by simp; omega) (fun k hk => by
    have : k = W.heap.size := by simpa [Value.ownBlock] using hk.symm
    omega)
  have hb3 := HBW.out.trans (hb2.mono (by omega))
  replace HP := Lib.hid (HP.out.below hb2 (by omega))
  have HB0 := Lib.hid hb3
  have HO := Lib.hid ho.reads
  have HL := Lib.hid ((HRR.out.below hb3).mono hb3.size)
  clear hown0 hown10 hg10 ho hs HBW hb2 hb3 HRR
  go_upto_region 4 with (at_builtin; refine Lib.wpList_append_run _ rfl _ _ _ _ rfl _ _ rfl rfl _ _ hap ?_)
  clear hap hi hz0 hz1 hz2
  have HBA := Lib.hid (show ∀ W, Below w10.heap.size w10 W → Below w.heap.size w W from fun W h => HB0.out.trans (h.mono HB0.out.size))
  have HPA := Lib.hid (show ∀ W, Below w10.heap.size w10 W → PB W w.heap.size P from fun W h => HP.out.go h)
  have HOA := Lib.hid (show ∀ W, Below w10.heap.size w10 W → Reads3 W.heap.size W p2 n F T G from fun W h => (HO.out.below h).mono h.size)
  have HLA := Lib.hid (show ∀ W, Below w10.heap.size w10 W → Reads3 W.heap.size W p n F T G from fun W h => (HL.out.below h).mono h.size)
  have HI := Lib.hid (Below.refl w10.heap.size w10)
  clear HB0 HP HO HL
  go_wp2_with (refine wpList_pos (by rfl) _ (by rfl) w.heap.size P X HX.out (by rfl) (HPA.out _ HI.out) ?_)
  refine (ML.out p2 c2 _ (HBA.out _ HI.out) (HOA.out _ HI.out)).mono ?_
  rintro e w11 ⟨rfl, hb⟩
  replace HI := Lib.hid (show Below w10.heap.size w10 w11 from hb)
  clear hb ML
  dsimp only
  refine list_go (by assumption) ?_
  go_wp2_with (first | refine wpList_new Y1 Z HY1.out (by rfl) (by rfl) ?_ | fail)
  intro w12 hq hb hz
  replace HI := Lib.hid (HI.out.trans (hb.mono HI.out.size))
  have H6 := Lib.hid hq
  clear hb hq hz
  generalize w11.heap.size = b6 at H6 ⊢
  try simp only [Act.put, List.setIfInBounds_toArray, List.set_cons_zero, List.set_cons_succ]
  go_wp2_with (refine wpList_pos (by rfl) _ (by rfl) w.heap.size P X HX.out (by rfl) (HPA.out _ HI.out) ?_)
  refine (RL.out p c _ (HLA.out _ HI.out)).mono ?_
  rintro e w13 ⟨rfl, hb⟩
  replace HI := Lib.hid (HI.out.trans (hb.mono HI.out.size))
  replace H6 := Lib.hid (H6.out.go hb)
  clear hb RL
  dsimp only
  refine list_go (by assumption) ?_
  go_wp2_with (first | refine wpList_new Y1 Z HY1.out (by rfl) (by rfl) ?_ | fail)
  intro w14 hq hb hz
  replace HI := Lib.hid (HI.out.trans (hb.mono HI.out.size))
  replace H6 := Lib.hid (H6.out.go hb)
  have H8 := Lib.hid hq
  clear hb hq hz
  generalize w13.heap.size = b8 at H8 ⊢
  try simp only [Act.put, List.setIfInBounds_toArray, List.set_cons_zero, List.set_cons_succ]
  have hee : (er != er) = false := by simp
  have hpp : (ps != ps) = false := by simp
  have HNX := Lib.hid (show ∀ W, (binOp .neq 29 (.agg Y1) (.agg Y1)).run Tryz.prog W = .ok (.bool false) W from fun W => by rw [HY1.out, neq_pos, posEq_self]; rfl)
  go_upto_region 6 with (fail)
  refine forget_B (fun W => PB W b6 Z ∧ PB W b8 Z ∧ Below w10.heap.size w10 W) ⟨H6.out, H8.out, HI.out⟩ ?_
  clear H6 H8 HI
  intro W5 h5
  have HI := Lib.hid h5
  clear h5
  have HNN := Lib.hid hn2
  clear hn2
  refine wp_region_noPanic ?_
  refine wp_region_start (n := 29) (l := #[ff, ff, ff, ff, ff, ff, ff, ff, ff, ff, ff, ff, ff, ff, ff, ff, ff, ff, ff, ff, ff, ff, ff, ff, ff, ff, ff, ff, ff]) (S := (fun W => PB W b6 Z ∧ PB W b8 Z ∧ Below w10.heap.size w10 W)) (by kernel_rfl) rfl (by kernel_rfl) (by first | exact HI.out | exact ⟨HI.out.1.go (Below.refl _ _).drew, HI.out.2.1.go (Below.refl _ _).drew, HI.out.2.2.trans (Below.mono (Below.refl _ _).drew HI.out.2.2.size)⟩) (fun hHeld => ?_)
  replace HI := Lib.hid (show PB W5.drew b6 Z ∧ PB W5.drew b8 Z ∧ Below w10.heap.size w10 W5.drew from ⟨HI.out.1.drew, HI.out.2.1.drew, HI.out.2.2.drew⟩)
  generalize W5.drew = V at hHeld HI ⊢
  refine take_go (i := 0) (d := some 30) (v := (.agg Y1)) (l' := #[tt, ff, ff, ff, ff, ff, ff, ff, ff, ff, ff, ff, ff, ff, ff, ff, ff, ff, ff, ff, ff, ff, ff, ff, ff, ff, ff, ff, ff]) rfl rfl ?_ ?_
  · exact yields_posC (by rfl) _ (by rfl) b6 Z Y1 HY1.out (by rfl) (fun W h => h.1)
  try simp only [Act.put, List.setIfInBounds_toArray, List.set_cons_zero, List.set_cons_succ]
  refine take_go (i := 1) (d := some 31) (v := (.agg Y1)) (l' := #[tt, tt, ff, ff, ff, ff, ff, ff, ff, ff, ff, ff, ff, ff, ff, ff, ff, ff, ff, ff, ff, ff, ff, ff, ff, ff, ff, ff, ff]) rfl rfl ?_ ?_
  · exact yields_posC (by rfl) _ (by rfl) b8 Z Y1 HY1.out (by rfl) (fun W h => h.2.1)
  try simp only [Act.put, List.setIfInBounds_toArray, List.set_cons_zero, List.set_cons_succ]
  refine take_go (i := 2) (d := some 32) (v := (.bool false)) (l' := #[tt, tt, tt, ff, ff, ff, ff, ff, ff, ff, ff, ff, ff, ff, ff, ff, ff, ff, ff, ff, ff, ff, ff, ff, ff, ff, ff, ff, ff]) rfl rfl ?_ ?_
  · exact yields_binN (by rfl) _ _ _ _ _ (by rfl) (.agg Y1) (.agg Y1) _ (by rfl) (by rfl) (fun W => by go_simp) HNX.out
  try simp only [Act.put, List.setIfInBounds_toArray, List.set_cons_zero, List.set_cons_succ]
  refine take_go (i := 3) (d := some 33) (v := ?_) (l' := #[tt, tt, tt, tt, ff, ff, ff, ff, ff, ff, ff, ff, ff, ff, ff, ff, ff, ff, ff, ff, ff, ff, ff, ff, ff, ff, ff, ff, ff]) rfl rfl (Or.inl ⟨by rfl, ?_⟩) ?_; rotate_left; · (intro w' hSw; (try dsimp only at hSw); go_simp; (try with_reducible rfl))
  try simp only [Act.put, List.setIfInBounds_toArray, List.set_cons_zero, List.set_cons_succ]
  refine take_go (i := 4) (d := some 34) (v := ?_) (l' := #[tt, tt, tt, tt, tt, ff, ff, ff, ff, ff, ff, ff, ff, ff, ff, ff, ff, ff, ff, ff, ff, ff, ff, ff, ff, ff, ff, ff, ff]) rfl rfl (Or.inl ⟨by rfl, ?_⟩) ?_; rotate_left; · (intro w' hSw; (try dsimp only at hSw); go_simp; (try with_reducible rfl))
  try simp only [Act.put, List.setIfInBounds_toArray, List.set_cons_zero, List.set_cons_succ]
  refine take_go (i := 5) (d := some 35) (v := ?_) (l' := #[tt, tt, tt, tt, tt, tt, ff, ff, ff, ff, ff, ff, ff, ff, ff, ff, ff, ff, ff, ff, ff, ff, ff, ff, ff, ff, ff, ff, ff]) rfl rfl (Or.inl ⟨by rfl, ?_⟩) ?_; rotate_left; · (intro w' hSw; (try dsimp only at hSw); go_simp; (try with_reducible rfl))
  try simp only [Act.put, List.setIfInBounds_toArray, List.set_cons_zero, List.set_cons_succ]
  refine take_go (i := 6) (d := some 36) (v := ?_) (l' := #[tt, tt, tt, tt, tt, tt, tt, ff, ff, ff, ff, ff, ff, ff, ff, ff, ff, ff, ff, ff, ff, ff, ff, ff, ff, ff, ff, ff, ff]) rfl rfl (Or.inl ⟨by rfl, ?_⟩) ?_; rotate_left; · (intro w' hSw; (try dsimp only at hSw); go_simp; (try with_reducible rfl))
  try simp only [Act.put, List.setIfInBounds_toArray, List.set_cons_zero, List.set_cons_succ]
  refine take_go (i := 7) (d := some 37) (v := ?_) (l' := #[tt, tt, tt, tt, tt, tt, tt, tt, ff, ff, ff, ff, ff, ff, ff, ff, ff, ff, ff, ff, ff, ff, ff, ff, ff, ff, ff, ff, ff]) rfl rfl (Or.inl ⟨by rfl, ?_⟩) ?_; rotate_left; · (intro w' hSw; (try dsimp only at hSw); go_simp; (try with_reducible rfl))
  try simp only [Act.put, List.setIfInBounds_toArray, List.set_cons_zero, List.set_cons_succ]
  refine take_go (i := 8) (d := some 38) (v := ?_) (l' := #[tt, tt, tt, tt, tt, tt, tt, tt, tt, ff, ff, ff, ff, ff, ff, ff, ff, ff, ff, ff, ff, ff, ff, ff, ff, ff, ff, ff, ff]) rfl rfl (Or.inl ⟨by rfl, ?_⟩) ?_; rotate_left; · (intro w' hSw; (try dsimp only at hSw); go_simp; (try with_reducible rfl))
  try simp only [Act.put, List.setIfInBounds_toArray, List.set_cons_zero, List.set_cons_succ]
  refine take_go (i := 9) (d := some 39) (v := (.agg X)) (l' := #[tt, tt, tt, tt, tt, tt, tt, tt, tt, tt, ff, ff, ff, ff, ff, ff, ff, ff, ff, ff, ff, ff, ff, ff, ff, ff, ff, ff, ff]) rfl rfl ?_ ?_
  · exact yields_posC (by rfl) _ (by rfl) w.heap.size P X HX.out (by rfl) (fun W h => HPA.out W h.2.2)
  try simp only [Act.put, List.setIfInBounds_toArray, List.set_cons_zero, List.set_cons_succ]
  refine take_go (i := 11) (d := some 41) (v := (.agg X)) (l' := #[tt, tt, tt, tt, tt, tt, tt, tt, tt, tt, ff, tt, ff, ff, ff, ff, ff, ff, ff, ff, ff, ff, ff, ff, ff, ff, ff, ff, ff]) rfl rfl ?_ ?_
  · exact yields_posC (by rfl) _ (by rfl) w.heap.size P X HX.out (by rfl) (fun W h => HPA.out W h.2.2)
  try simp only [Act.put, List.setIfInBounds_toArray, List.set_cons_zero, List.set_cons_succ]
  refine one_to (i := 10) (l' := #[tt, tt, tt, tt, tt, tt, tt, tt, tt, tt, tt, tt, ff, ff, ff, ff, ff, ff, ff, ff, ff, ff, ff, ff, ff, ff, ff, ff, ff]) rfl (by kernel_rfl) (by kernel_rfl) (fun K hK => ?_)
  go_simp
  refine (MP.out _ (HBA.out _ HI.out.2.2)).mono ?_
  rintro e V ⟨rfl, hb⟩
  replace HI := Lib.hid (show PB V b6 Z ∧ PB V b8 Z ∧ Below w10.heap.size w10 V from ⟨HI.out.1.go hb, HI.out.2.1.go hb, HI.out.2.2.trans (Below.mono hb HI.out.2.2.size)⟩)
  clear hb
  dsimp only
  refine hK.out _ _ (by first | exact HI.out | exact ⟨HI.out.1.go (Below.refl _ _).drew, HI.out.2.1.go (Below.refl _ _).drew, HI.out.2.2.trans (Below.mono (Below.refl _ _).drew HI.out.2.2.size)⟩) (fun hHeld => ?_)
  clear hK K
  try simp only [Act.put, List.setIfInBounds_toArray, List.set_cons_zero, List.set_cons_succ]
  refine one_to (i := 12) (l' := #[tt, tt, tt, tt, tt, tt, tt, tt, tt, tt, tt, tt, tt, ff, ff, ff, ff, ff, ff, ff, ff, ff, ff, ff, ff, ff, ff, ff, ff]) rfl (by kernel_rfl) (by kernel_rfl) (fun K hK => ?_)
  go_simp
  refine (RP.out _).mono ?_
  rintro e V ⟨rfl, hb⟩
  replace HI := Lib.hid (show PB V b6 Z ∧ PB V b8 Z ∧ Below w10.heap.size w10 V from ⟨HI.out.1.go hb, HI.out.2.1.go hb, HI.out.2.2.trans (Below.mono hb HI.out.2.2.size)⟩)
  clear hb
  dsimp only
  refine hK.out _ _ (by first | exact HI.out | exact ⟨HI.out.1.go (Below.refl _ _).drew, HI.out.2.1.go (Below.refl _ _).drew, HI.out.2.2.trans (Below.mono (Below.refl _ _).drew HI.out.2.2.size)⟩) (fun hHeld => ?_)
  clear hK K
  try simp only [Act.put, List.setIfInBounds_toArray, List.set_cons_zero, List.set_cons_succ]
  refine take_go (i := 13) (d := some 43) (v := ?_) (l' := #[tt, tt, tt, tt, tt, tt, tt, tt, tt, tt, tt, tt, tt, tt, ff, ff, ff, ff, ff, ff, ff, ff, ff, ff, ff, ff, ff, ff, ff]) rfl rfl (Or.inl ⟨by rfl, ?_⟩) ?_; rotate_left; · (intro w' hSw; (try dsimp only at hSw); go_simp; (try with_reducible rfl))
  try simp only [Act.put, List.setIfInBounds_toArray, List.set_cons_zero, List.set_cons_succ]
  refine take_go (i := 14) (d := some 44) (v := ?_) (l' := #[tt, tt, tt, tt, tt, tt, tt, tt, tt, tt, tt, tt, tt, tt, tt, ff, ff, ff, ff, ff, ff, ff, ff, ff, ff, ff, ff, ff, ff]) rfl rfl (Or.inl ⟨by rfl, ?_⟩) ?_; rotate_left; · (intro w' hSw; (try dsimp only at hSw); go_simp; (try with_reducible rfl))
  try simp only [Act.put, List.setIfInBounds_toArray, List.set_cons_zero, List.set_cons_succ]
  refine take_go (i := 15) (d := some 45) (v := ?_) (l' := #[tt, tt, tt, tt, tt, tt, tt, tt, tt, tt, tt, tt, tt, tt, tt, tt, ff, ff, ff, ff, ff, ff, ff, ff, ff, ff, ff, ff, ff]) rfl rfl (Or.inl ⟨by rfl, ?_⟩) ?_; rotate_left; · (intro w' hSw; (try dsimp only at hSw); go_simp; (try with_reducible rfl))
  try simp only [Act.put, List.setIfInBounds_toArray, List.set_cons_zero, List.set_cons_succ]
  refine take_go (i := 16) (d := some 46) (v := (.agg X)) (l' := #[tt, tt, tt, tt, tt, tt, tt, tt, tt, tt, tt, tt, tt, tt, tt, tt, tt, ff, ff, ff, ff, ff, ff, ff, ff, ff, ff, ff, ff]) rfl rfl ?_ ?_
  · exact yields_posC (by rfl) _ (by rfl) w.heap.size P X HX.out (by rfl) (fun W h => HPA.out W h.2.2)
  try simp only [Act.put, List.setIfInBounds_toArray, List.set_cons_zero, List.set_cons_succ]
  refine take_go (i := 18) (d := some 48) (v := (.agg X)) (l' := #[tt, tt, tt, tt, tt, tt, tt, tt, tt, tt, tt, tt, tt, tt, tt, tt, tt, ff, tt, ff, ff, ff, ff, ff, ff, ff, ff, ff, ff]) rfl rfl ?_ ?_
  · exact yields_posC (by rfl) _ (by rfl) w.heap.size P X HX.out (by rfl) (fun W h => HPA.out W h.2.2)
  try simp only [Act.put, List.setIfInBounds_toArray, List.set_cons_zero, List.set_cons_succ]
  refine one_to (i := 17) (l' := #[tt, tt, tt, tt, tt, tt, tt, tt, tt, tt, tt, tt, tt, tt, tt, tt, tt, tt, tt, ff, ff, ff, ff, ff, ff, ff, ff, ff, ff]) rfl (by kernel_rfl) (by kernel_rfl) (fun K hK => ?_)
  go_simp
  refine (MM.out _ (HBA.out _ HI.out.2.2)).mono ?_
  rintro e V ⟨v, rfl, hb, hown⟩
  obtain ⟨p1, c1, rfl, hr1⟩ := reads3_own hown
  replace HI := Lib.hid (show PB V b6 Z ∧ PB V b8 Z ∧ Below w10.heap.size w10 V from ⟨HI.out.1.go hb, HI.out.2.1.go hb, HI.out.2.2.trans (Below.mono hb HI.out.2.2.size)⟩)
  have HR1 := Lib.hid hr1
  clear hb hown hr1
  dsimp only
  refine hK.out _ _ (by first | exact HI.out | exact ⟨HI.out.1.go (Below.refl _ _).drew, HI.out.2.1.go (Below.refl _ _).drew, HI.out.2.2.trans (Below.mono (Below.refl _ _).drew HI.out.2.2.size)⟩) (fun hHeld => ?_)
  clear hK K
  try simp only [Act.put, List.setIfInBounds_toArray, List.set_cons_zero, List.set_cons_succ]
  refine one_to (i := 19) (l' := #[tt, tt, tt, tt, tt, tt, tt, tt, tt, tt, tt, tt, tt, tt, tt, tt, tt, tt, tt, tt, ff, ff, ff, ff, ff, ff, ff, ff, ff]) rfl (by kernel_rfl) (by kernel_rfl) (fun K hK => ?_)
  go_simp
  refine (RM.out _).mono ?_
  rintro e V ⟨v, rfl, hb, hown⟩
  obtain ⟨p3, c3, rfl, hr2⟩ := reads3_own hown
  replace HI := Lib.hid (show PB V b6 Z ∧ PB V b8 Z ∧ Below w10.heap.size w10 V from ⟨HI.out.1.go hb, HI.out.2.1.go hb, HI.out.2.2.trans (Below.mono hb HI.out.2.2.size)⟩)
  replace HR1 := Lib.hid ((HR1.out.below hb).mono hb.size)
  have HR2 := Lib.hid hr2
  clear hb hown hr2
  dsimp only
  refine hK.out _ _ (by first | exact HI.out | exact ⟨HI.out.1.go (Below.refl _ _).drew, HI.out.2.1.go (Below.refl _ _).drew, HI.out.2.2.trans (Below.mono (Below.refl _ _).drew HI.out.2.2.size)⟩) (fun hHeld => ?_)
  clear hK K
  try simp only [Act.put, List.setIfInBounds_toArray, List.set_cons_zero, List.set_cons_succ]
  refine one_to (i := 20) (l' := #[tt, tt, tt, tt, tt, tt, tt, tt, tt, tt, tt, tt, tt, tt, tt, tt, tt, tt, tt, tt, tt, ff, ff, ff, ff, ff, ff, ff, ff]) rfl (by kernel_rfl) (by kernel_rfl) (fun K hK => ?_)
  go_simp
  refine (same10_any L HLL.out _ _ _ _ _ HR1.out HR2.out).mono ?_
  rintro e V ⟨rfl, hb⟩
  replace HI := Lib.hid (show PB V b6 Z ∧ PB V b8 Z ∧ Below w10.heap.size w10 V from ⟨HI.out.1.go hb, HI.out.2.1.go hb, HI.out.2.2.trans (Below.mono hb HI.out.2.2.size)⟩)
  clear HR1 HR2
  clear hb
  dsimp only
  refine hK.out _ _ (by first | exact HI.out | exact ⟨HI.out.1.go (Below.refl _ _).drew, HI.out.2.1.go (Below.refl _ _).drew, HI.out.2.2.trans (Below.mono (Below.refl _ _).drew HI.out.2.2.size)⟩) (fun hHeld => ?_)
  clear hK K
  try simp only [Act.put, List.setIfInBounds_toArray, List.set_cons_zero, List.set_cons_succ]
  refine take_go (i := 21) (d := some 51) (v := ?_) (l' := #[tt, tt, tt, tt, tt, tt, tt, tt, tt, tt, tt, tt, tt, tt, tt, tt, tt, tt, tt, tt, tt, tt, ff, ff, ff, ff, ff, ff, ff]) rfl rfl (Or.inl ⟨by rfl, ?_⟩) ?_; rotate_left; · (intro w' hSw; (try dsimp only at hSw); go_simp; (try with_reducible rfl))
  try simp only [Act.put, List.setIfInBounds_toArray, List.set_cons_zero, List.set_cons_succ]
  refine take_go (i := 22) (d := some 52) (v := ?_) (l' := #[tt, tt, tt, tt, tt, tt, tt, tt, tt, tt, tt, tt, tt, tt, tt, tt, tt, tt, tt, tt, tt, tt, tt, ff, ff, ff, ff, ff, ff]) rfl rfl (Or.inl ⟨by rfl, ?_⟩) ?_; rotate_left; · (intro w' hSw; (try dsimp only at hSw); go_simp; (try with_reducible rfl))
  try simp only [Act.put, List.setIfInBounds_toArray, List.set_cons_zero, List.set_cons_succ]
  refine take_go (i := 23) (d := some 53) (v := ?_) (l' := #[tt, tt, tt, tt, tt, tt, tt, tt, tt, tt, tt, tt, tt, tt, tt, tt, tt, tt, tt, tt, tt, tt, tt, tt, ff, ff, ff, ff, ff]) rfl rfl (Or.inl ⟨by rfl, ?_⟩) ?_; rotate_left; · (intro w' hSw; (try dsimp only at hSw); go_simp; (try with_reducible rfl))
  try simp only [Act.put, List.setIfInBounds_toArray, List.set_cons_zero, List.set_cons_succ]
  refine take_go (i := 24) (d := some 54) (v := ?_) (l' := #[tt, tt, tt, tt, tt, tt, tt, tt, tt, tt, tt, tt, tt, tt, tt, tt, tt, tt, tt, tt, tt, tt, tt, tt, tt, ff, ff, ff, ff]) rfl rfl (Or.inl ⟨by rfl, ?_⟩) ?_; rotate_left; · (intro w' hSw; (try dsimp only at hSw); go_simp; (try with_reducible rfl))
  try simp only [Act.put, List.setIfInBounds_toArray, List.set_cons_zero, List.set_cons_succ]
  refine take_go (i := 25) (d := some 55) (v := ?_) (l' := #[tt, tt, tt, tt, tt, tt, tt, tt, tt, tt, tt, tt, tt, tt, tt, tt, tt, tt, tt, tt, tt, tt, tt, tt, tt, tt, ff, ff, ff]) rfl rfl (Or.inl ⟨by rfl, ?_⟩) ?_; rotate_left; · (intro w' hSw; (try dsimp only at hSw); go_simp; (try with_reducible rfl))
  try simp only [Act.put, List.setIfInBounds_toArray, List.set_cons_zero, List.set_cons_succ]
  refine one_to (i := 26) (l' := #[tt, tt, tt, tt, tt, tt, tt, tt, tt, tt, tt, tt, tt, tt, tt, tt, tt, tt, tt, tt, tt, tt, tt, tt, tt, tt, tt, ff, ff]) rfl (by kernel_rfl) (by kernel_rfl) (fun K hK => ?_)
  go_simp
  refine (same_rows F T G n hn3 _ _ _ _ _ (HOA.out _ HI.out.2.2) (HLA.out _ HI.out.2.2)).mono ?_
  rintro e V ⟨rfl, hb⟩
  replace HI := Lib.hid (show PB V b6 Z ∧ PB V b8 Z ∧ Below w10.heap.size w10 V from ⟨HI.out.1.go hb, HI.out.2.1.go hb, HI.out.2.2.trans (Below.mono hb HI.out.2.2.size)⟩)
  clear hb
  dsimp only
  refine hK.out _ _ (by first | exact HI.out | exact ⟨HI.out.1.go (Below.refl _ _).drew, HI.out.2.1.go (Below.refl _ _).drew, HI.out.2.2.trans (Below.mono (Below.refl _ _).drew HI.out.2.2.size)⟩) (fun hHeld => ?_)
  clear hK K
  try simp only [Act.put, List.setIfInBounds_toArray, List.set_cons_zero, List.set_cons_succ]
  refine take_go (i := 27) (d := some 57) (v := ?_) (l' := #[tt, tt, tt, tt, tt, tt, tt, tt, tt, tt, tt, tt, tt, tt, tt, tt, tt, tt, tt, tt, tt, tt, tt, tt, tt, tt, tt, tt, ff]) rfl rfl (Or.inl ⟨by rfl, ?_⟩) ?_; rotate_left; · (intro w' hSw; (try dsimp only at hSw); go_simp; (try with_reducible rfl))
  try simp only [Act.put, List.setIfInBounds_toArray, List.set_cons_zero, List.set_cons_succ]
  refine take_go (i := 28) (d := some 58) (v := ?_) (l' := #[tt, tt, tt, tt, tt, tt, tt, tt, tt, tt, tt, tt, tt, tt, tt, tt, tt, tt, tt, tt, tt, tt, tt, tt, tt, tt, tt, tt, tt]) rfl rfl (Or.inl ⟨by rfl, ?_⟩) ?_; rotate_left; · (intro w' hSw; (try dsimp only at hSw); go_simp; (try with_reducible rfl))
  try simp only [Act.put, List.setIfInBounds_toArray, List.set_cons_zero, List.set_cons_succ]
  refine wpAnyH_done (by kernel_rfl) ?_ _
  refine NoPanic.normal ?_
  clear hHeld
  replace HI := Lib.hid HI.out.2.2
  clear hee hpp HNX MM RM MP RP HLL
  go_wp2
  go_loopw [10] (fun v wr => ∃ j : Nat, j ≤ n ∧ v = .int .i64 (j : Int) ∧ Below w10.heap.size w10 wr) (fun v _ => n - (intOf v).toNat)
  case atStart => exact ⟨0, Nat.zero_le _, rfl, HI.out⟩
  case round =>
    clear HI
    obtain ⟨j, hj, rfl, hb⟩ := hrel
    have HI := Lib.hid hb
    clear hb
    by_cases hlt : j < n
    · have hrd := HLA.out _ HI.out
      obtain ⟨pb, po, rfl⟩ := hrd.addr hlt
      obtain ⟨e0, e1, e2⟩ := hrd.cells hlt
      generalize F j = f at *
      generalize T j = t at *
      generalize G j = k at *
      obtain ⟨lv, hlv⟩ : ∃ x, (posB P && legB P f t k) = x := ⟨_, rfl⟩
      have MI1 := Lib.hid (MI.out f t k)
      have RI1 := Lib.hid (RI.out f t k)
      rw [hlv] at MI1 RI1
      clear hlv hrd
      have g0 := cell_regrown e0
      have g1 := cell_regrown e1
      have g2 := cell_regrown e2
      have i0 : (0 : Int) ≤ (j : Int) := by omega
      have hlti : (j : Int) < (n : Int) := by omega
      have hvv : (lv != lv) = false := by simp
      clear e0 e1 e2
      go_upto_region 11 with (fail)
      have HCP := Lib.hid (HPA.out _ HI.out).regrown
      have hbr : ∀ dd os, Below w.heap.size w (grow (redrawn wr dd) os) := fun dd os => (HBA.out _ HI.out).trans ((below_regrown wr dd os).mono (HBA.out _ HI.out).size)
      have c70 := fun dd os => Calls.regrown_of (MI1.out _ (hbr dd os))
      have c76 := fun dd os => Calls.regrown_of (RI1.out (grow (redrawn wr dd) os))
      clear hbr
      refine wp_region_quiet_below (by kernel_rfl) (by kernel_rfl) ?_
      refine wpQuiet_pos (by rfl) _ (by rfl) w.heap.size P X HX.out (by rfl) HCP.out ?_
      try simp only [Act.put, List.setIfInBounds_toArray, List.set_cons_zero, List.set_cons_succ]
      iterate 4 (go_big_quiet_step (fail))
      go_big_quiet_step (exact c70 _ _)
      refine wpQuiet_pos (by rfl) _ (by rfl) w.heap.size P X HX.out (by rfl) HCP.out ?_
      try simp only [Act.put, List.setIfInBounds_toArray, List.set_cons_zero, List.set_cons_succ]
      iterate 4 (go_big_quiet_step (fail))
      go_big_quiet_step (exact c76 _ _)
      repeat (go_big_quiet_step (fail))
      refine wpQuiet_nil ?_
      rintro W9 ⟨pq, rfl⟩
      replace HI := Lib.hid (HI.out.trans ((below_regrown wr pq.d pq.os).mono HI.out.size))
      clear g0 g1 g2 c70 c76 HCP MI1 RI1
      generalize grow (redrawn wr pq.d) pq.os = W9 at HI ⊢
      go_wp2
      go_roundw
      case rel => exact ⟨j + 1, by omega, by go_num, HI.out⟩
      case measure => simp [intOf]; omega
    · obtain rfl : j = n := by omega
      go_wp2_with fail
      refine (AW.out _ (HBA.out _ HI.out)).mono ?_
      rintro e w6 ⟨rfl, hb⟩
      replace HI := Lib.hid (HI.out.trans (hb.mono HI.out.size))
      clear hb
      dsimp only
      refine list_go (by assumption) ?_
      go_wp2
      go_ret
      exact ⟨rfl, HBA.out _ HI.out⟩
end Go.Proofs.YthinkiljhkanhaaGreatDoor
