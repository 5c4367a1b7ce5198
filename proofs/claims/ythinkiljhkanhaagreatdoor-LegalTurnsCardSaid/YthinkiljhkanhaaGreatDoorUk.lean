/-
  LegalTurns: turned, the legal moves are those, turned, and there are as many rows.
-/
import Derived.Test.YthinkiljhkanhaaGreatDoorUo
import Derived.Test.YthinkiljhkanhaaGreatDoorRr
import Derived.Test.YthinkiljhkanhaaGreatDoorRx
import Derived.Test.YthinkiljhkanhaaGreatDoorRs
namespace Go.Proofs.YthinkiljhkanhaaGreatDoor
open Go.RowKit Go.Sort
set_option linter.unusedSimpArgs false
set_option linter.unusedVariables false
set_option maxRecDepth 20000

structure LMt (w0 W : World) (mb : Nat) (f t k : Int) : Prop where
  b : Below w0.heap.size w0 W
  m : W.heap[mb]? = some (.cells #[.int .i64 f, .int .i64 t, .int .i64 k] 41 (0, 0))
  l : w0.heap.size ≤ mb
theorem LMt.set0 {w0 W : World} {mb : Nat} {f t k : Int} (h : LMt w0 W mb f t k) (x : Int) : LMt w0 (W.setCell ⟨mb, 0, none⟩ (.int .i64 x)) mb x t k :=
  ⟨h.b.setCell (p := ⟨mb, 0, none⟩) h.l _, by
    have := Go.heap_setCell_same W mb 0 _ _ (.int .i64 x) h.m
    simpa using this, h.l⟩
theorem LMt.set1 {w0 W : World} {mb : Nat} {f t k : Int} (h : LMt w0 W mb f t k) (x : Int) : LMt w0 (W.setCell ⟨mb, 1, none⟩ (.int .i64 x)) mb f x k :=
  ⟨h.b.setCell (p := ⟨mb, 1, none⟩) h.l _, by
    have := Go.heap_setCell_same W mb 1 _ _ (.int .i64 x) h.m
    simpa using this, h.l⟩
def cntU (P : Nat → Int) (m : Nat) : Nat := cntS 1 P ((legM P).take m)
theorem cntU_zero (P : Nat → Int) : cntU P 0 = 0 := by unfold cntU cntS; simp
theorem cntU_full (P : Nat → Int) : cntU P (legM P).length = cntD 2 P := by unfold cntU; rw [List.take_length, cntD_succ]
theorem cntU_max (P : Nat → Int) (m : Nat) : cntU P m ≤ 5754585088000 := by
  unfold cntU
  exact cntS_max 1 (by omega) P _ (Nat.le_trans (by rw [List.length_take]; omega) (legM_len P))
theorem cntU_step (P : Nat → Int) (m : Nat) (h : m < (legM P).length) (s t : Nat) (k : Int) (e : (legM P)[m] = ((s : Int), (t : Int), k)) (hn : nxP P s t k = mvP P s t k) : cntU P (m + 1) = cntU P m + cntD 1 (mvP P s t k) := by
  unfold cntU
  rw [List.take_succ_eq_append_getElem h, e, cntS_snoc]
  simp only [Int.toNat_natCast]
  rw [hn]
theorem cntP_one (P : Nat → Int) : cntP P 1 = (lmM P).length := by
  unfold cntP lmM
  rw [show depN 1 = 1 from rfl]
  cases posB P
  · simp
  · simp only [if_true]; exact cnt_one10 P
theorem turn_is (P : Nat → Int) (hp : posB P = true) (s t : Nat) (k : Int) (h : ((s : Int), (t : Int), k) ∈ legM P) : (posB (turnN P) && legB (turnN P) (mI s) (mI t) k) = true := by
  rw [pos_turn P (pos_parts P hp).1, hp, Bool.true_and, legB_iff]
  exact leg_turn_mem P hp _ h
set_option maxHeartbeats 16000000 in
set_option maxRecDepth 100000 in
theorem legalTurns_any (P : Nat → Int) (w : World) (B : Nat) (hgb : GB B w) (hgs : GS B w) (hgm : GM B w) (hgp : GP B w) (hB : B ≤ w.heap.size) :
    Calls Tryz.prog 7 #[.agg (pc P).toArray] w fun e w' => e = .returned (.bool true) ∧ Below w.heap.size w w' := by
  obtain ⟨X, hX⟩ : ∃ X, X = (pc P).toArray := ⟨_, rfl⟩
  obtain ⟨T, hT⟩ : ∃ T, turnN P = T := ⟨_, rfl⟩
  obtain ⟨Y, hY⟩ : ∃ Y, Y = (pc T).toArray := ⟨_, rfl⟩
  have AW := Lib.hid (fun W (h : Below w.heap.size w W) => awake10_any W B (hgb.below (h.mono hB)) (hgs.below (h.mono hB)) (hgm.below (h.mono hB)) (hgp.below (h.mono hB)) (Nat.le_trans hB h.size))
  have MP := Lib.hid (fun Q W (h : Below w.heap.size w W) => position_any Q W B (hgb.below (h.mono hB)) (hgs.below (h.mono hB)) (hgm.below (h.mono hB)) (hgp.below (h.mono hB)) (Nat.le_trans hB h.size))
  have MM := Lib.hid (fun Q W (h : Below w.heap.size w W) => lMoves_any Q W B (hgb.below (h.mono hB)) (hgs.below (h.mono hB)) (hgm.below (h.mono hB)) (hgp.below (h.mono hB)) (Nat.le_trans hB h.size))
  have MN := Lib.hid (fun Q d W (h : Below w.heap.size w W) => lCount_any Q d W B (hgb.below (h.mono hB)) (hgs.below (h.mono hB)) (hgm.below (h.mono hB)) (hgp.below (h.mono hB)) (Nat.le_trans hB h.size))
  have MI := Lib.hid (fun f t k W (h : Below w.heap.size w W) => lIs_any T f t k W B (hgb.below (h.mono hB)) (hgs.below (h.mono hB)) (hgm.below (h.mono hB)) (hgp.below (h.mono hB)) (Nat.le_trans hB h.size))
  have MR := Lib.hid (fun W (h : Below w.heap.size w W) => right_any P W B (hgb.below (h.mono hB)) (Nat.le_trans hB h.size))
  have MV := Lib.hid (fun f t k W (h : Below w.heap.size w W) => move_any P f t k W B (hgp.below (h.mono hB)) (Nat.le_trans hB h.size))
  have MT := Lib.hid (fun W => turn_any P W)
  have MF := Lib.hid (fun W => find_any P 0 0 W)
  have hfl := fnd_len P 0 0 64
  obtain ⟨FL, hFL⟩ : ∃ L, fnd P 0 0 64 = L := ⟨_, rfl⟩
  rw [hFL] at MF hfl
  obtain ⟨fl, hfl2⟩ : ∃ x, FL.length = x := ⟨_, rfl⟩
  rw [hfl2] at MF hfl
  have HFL := Lib.hid hfl
  clear hFL hfl2 hfl
  have MP1 := Lib.hid (MP.out P)
  have MP2 := Lib.hid (MP.out T)
  have MM1 := Lib.hid (MM.out P)
  have MM2 := Lib.hid (MM.out T)
  have MN1 := Lib.hid (MN.out P 1)
  have MN2 := Lib.hid (MN.out P 2)
  have MN3 := Lib.hid (MN.out T 2)
  rw [hT] at MT
  rw [← hX] at MP1 MM1 MN1 MN2 MR MV MT MF ⊢
  rw [← hY] at MP2 MM2 MN3 MI MT
  obtain ⟨rb, hrb⟩ : ∃ b, rightB P = b := ⟨_, rfl⟩
  obtain ⟨ps, hps⟩ : ∃ b, posB P = b := ⟨_, rfl⟩
  obtain ⟨n, hn⟩ : ∃ n, (lmM P).length = n := ⟨_, rfl⟩
  have HTU := Lib.hid (show rb = true → posB T = ps ∧ (lmM T).length = n ∧ cntP T 2 = cntP P 2 from fun h => by
    rw [h] at hrb
    refine ⟨by rw [← hT, pos_turn P hrb, hps], by rw [← hT, lm_turn_len P hrb, hn], by rw [← hT]; exact cntP_turn P hrb 2⟩)
  have hc1 := cntP_one P
  rw [hn] at hc1
  rw [hc1] at MN1
  have hnb : n ≤ 17920 := by
    rw [← hn]; unfold lmM; split
    · exact legM_len P
    · simp
  have HPOS := Lib.hid (show 0 < n → posB P = true ∧ (legM P).length = n ∧ mF (lmM P) = mF (legM P) ∧ mT (lmM P) = mT (legM P) ∧ mK (lmM P) = mK (legM P) from fun h => by
    have hp : posB P = true := by
      cases hp : posB P
      · rw [← hn] at h; unfold lmM at h; rw [hp] at h; simp at h
      · rfl
    have e : lmM P = legM P := by unfold lmM; rw [hp]; rfl
    exact ⟨hp, by rw [← hn, e], by rw [e], by rw [e], by rw [e]⟩)
  have HC2 := Lib.hid (show cntP P 2 = cntU P n from by
    unfold cntP
    rw [show depN 2 = 2 from rfl]
    cases hp : posB P
    · have : n = 0 := by rw [← hn]; unfold lmM; rw [hp]; rfl
      rw [this, cntU_zero]; rfl
    · have : n = (legM P).length := by rw [← hn]; unfold lmM; rw [hp]; rfl
      rw [this, cntU_full]; rfl)
  have HTI := Lib.hid (fun (hp : posB P = true) s t k h => turn_is P hp s t k h)
  rw [hT] at HTI
  rw [hps] at MP1
  rw [hrb] at MR
  have HOW1 := Lib.hid (fun (W : World) base v (h : W.ownsRow base 41 3 v (lmM P).length (mvals (lmM P))) => reads3_own h)
  have HOW2 := Lib.hid (fun (W : World) base v (h : W.ownsRow base 41 3 v (lmM T).length (mvals (lmM T))) => reads3_own h)
  rw [hn] at MM1 HOW1
  have HX := Lib.hid hX
  have HY := Lib.hid hY
  have HP := Lib.hid (pos_box P w X hX 29)
  have HB := Lib.hid (below_new (w := w) (.cells X 29))
  clear hX hT hY hrb hps hn hc1 hgb hgs hgm hgp
  go_enter Tryz.func7, Tryz.ntmps7
  go_upto_region 1 with (fail)
  generalize w.alloc (.cells X 29) = W at *
  go_wp2_with fail
  refine (AW.out _ HB.out).mono ?_
  rintro e w1 ⟨rfl, hb⟩
  replace HP := Lib.hid (HP.out.go hb)
  replace HB := Lib.hid (HB.out.trans (hb.mono HB.out.size))
  clear hb AW
  dsimp only
  refine list_go (by assumption) ?_
  go_wp2_with (refine wpList_pos (by rfl) _ (by rfl) w.heap.size P X HX.out (by rfl) HP.out ?_)
  refine (MR.out _ HB.out).mono ?_
  rintro e w2 ⟨rfl, hb⟩
  replace HP := Lib.hid (HP.out.go hb)
  replace HB := Lib.hid (HB.out.trans (hb.mono HB.out.size))
  clear hb MR
  dsimp only
  refine list_go (by assumption) ?_
  cases rb
  · go_wp2
    go_ret
    exact ⟨rfl, HB.out⟩
  obtain ⟨ht1, ht2, ht3⟩ := HTU.out rfl
  rw [ht1] at MP2
  rw [ht2] at MM2 HOW2
  rw [ht3] at MN3
  clear HTU ht1 ht2 ht3
  go_wp2_with (refine wpList_pos (by rfl) _ (by rfl) w.heap.size P X HX.out (by rfl) HP.out ?_)
  refine (MT.out _).mono ?_
  rintro e w3 ⟨rfl, hb⟩
  replace HP := Lib.hid (HP.out.go hb)
  replace HB := Lib.hid (HB.out.trans (hb.mono HB.out.size))
  clear hb MT
  dsimp only
  refine list_go (by assumption) ?_
  go_wp2_with (first | refine wpList_new Y T HY.out (by rfl) (by rfl) ?_ | fail)
  intro w4 hq hb hz
  replace HP := Lib.hid (HP.out.go hb)
  replace HB := Lib.hid (HB.out.trans (hb.mono HB.out.size))
  have HQ := Lib.hid hq
  clear hb hq hz
  generalize w3.heap.size = b3 at HQ ⊢
  try simp only [Act.put, List.setIfInBounds_toArray, List.set_cons_zero, List.set_cons_succ]
  go_upto_region 6 with (fail)
  obtain ⟨w5, hw5⟩ : ∃ x, x = w4 := ⟨_, rfl⟩
  rw [← hw5] at HP HB HQ ⊢
  have HBA := Lib.hid (show ∀ W, Below w5.heap.size w5 W → Below w.heap.size w W from fun W h => HB.out.trans (h.mono HB.out.size))
  have HPA := Lib.hid (show ∀ W, Below w5.heap.size w5 W → PB W w.heap.size P from fun W h => HP.out.go h)
  have HQA := Lib.hid (show ∀ W, Below w5.heap.size w5 W → PB W b3 T from fun W h => HQ.out.go h)
  have HI := Lib.hid (Below.refl w5.heap.size w5)
  clear HP HB HQ hw5
  refine forget_B (fun W => Below w5.heap.size w5 W) HI.out ?_
  clear HI
  intro W6 h6
  have HI := Lib.hid h6
  clear h6
  refine wp_region_noPanic ?_
  refine wp_region_start (n := 6) (l := #[ff, ff, ff, ff, ff, ff]) (S := (fun W => Below w5.heap.size w5 W)) (by kernel_rfl) rfl (by kernel_rfl) (by first | exact HI.out | exact HI.out.drew) (fun hHeld => ?_)
  replace HI := Lib.hid (show Below w5.heap.size w5 W6.drew from HI.out.drew)
  generalize W6.drew = V at hHeld HI ⊢
  refine take_go (i := 0) (d := some 19) (v := (.agg X)) (l' := #[tt, ff, ff, ff, ff, ff]) rfl rfl ?_ ?_
  · exact yields_posC (by rfl) _ (by rfl) w.heap.size P X HX.out (by rfl) (fun W h => HPA.out W h)
  try simp only [Act.put, List.setIfInBounds_toArray, List.set_cons_zero, List.set_cons_succ]
  refine take_go (i := 2) (d := some 21) (v := (.agg Y)) (l' := #[tt, ff, tt, ff, ff, ff]) rfl rfl ?_ ?_
  · exact yields_posC (by rfl) _ (by rfl) b3 T Y HY.out (by rfl) (fun W h => HQA.out W h)
  try simp only [Act.put, List.setIfInBounds_toArray, List.set_cons_zero, List.set_cons_succ]
  refine one_to (i := 1) (l' := #[tt, tt, tt, ff, ff, ff]) rfl (by kernel_rfl) (by kernel_rfl) (fun K hK => ?_)
  go_simp
  refine (MM1.out _ (HBA.out _ HI.out)).mono ?_
  rintro e V ⟨v, rfl, hb, hown⟩
  obtain ⟨p1, c1, rfl, hr1⟩ := HOW1.out _ _ _ hown
  replace HI := Lib.hid (HI.out.trans (hb.mono HI.out.size))
  have HR1 := Lib.hid hr1
  clear hb hown hr1
  dsimp only
  refine hK.out _ _ (by first | exact HI.out | exact HI.out.drew) (fun hHeld => ?_)
  clear hK K
  try simp only [Act.put, List.setIfInBounds_toArray, List.set_cons_zero, List.set_cons_succ]
  refine one_to (i := 3) (l' := #[tt, tt, tt, tt, ff, ff]) rfl (by kernel_rfl) (by kernel_rfl) (fun K hK => ?_)
  go_simp
  refine (MM2.out _ (HBA.out _ HI.out)).mono ?_
  rintro e V ⟨v, rfl, hb, hown⟩
  obtain ⟨p2, c2, rfl, hr2⟩ := HOW2.out _ _ _ hown
  replace HI := Lib.hid (HI.out.trans (hb.mono HI.out.size))
  replace HR1 := Lib.hid ((HR1.out.below hb).mono hb.size)
  clear hb hown hr2
  dsimp only
  refine hK.out _ _ (by first | exact HI.out | exact HI.out.drew) (fun hHeld => ?_)
  clear hK K
  try simp only [Act.put, List.setIfInBounds_toArray, List.set_cons_zero, List.set_cons_succ]
  refine take_go (i := 4) (d := some 4) (v := ?_) (l' := #[tt, tt, tt, tt, tt, ff]) rfl rfl (Or.inl ⟨by rfl, ?_⟩) ?_; rotate_left; · (intro w' hSw; (try dsimp only at hSw); go_simp; (try with_reducible rfl))
  try simp only [Act.put, List.setIfInBounds_toArray, List.set_cons_zero, List.set_cons_succ]
  refine take_go (i := 5) (d := some 5) (v := ?_) (l' := #[tt, tt, tt, tt, tt, tt]) rfl rfl (Or.inl ⟨by rfl, ?_⟩) ?_; rotate_left; · (intro w' hSw; (try dsimp only at hSw); go_simp; (try with_reducible rfl))
  try simp only [Act.put, List.setIfInBounds_toArray, List.set_cons_zero, List.set_cons_succ]
  refine wpAnyH_done (by kernel_rfl) ?_ _
  refine NoPanic.normal ?_
  clear hHeld
  have HR1A := Lib.hid (show ∀ W, Below V.heap.size V W → Reads3 W.heap.size W p1 n (mF (lmM P)) (mT (lmM P)) (mK (lmM P)) from fun W h => (HR1.out.below h).mono h.size)
  have HVA := Lib.hid (show ∀ W, Below V.heap.size V W → Below w5.heap.size w5 W from fun W h => HI.out.trans (h.mono HI.out.size))
  clear HI HR1 MM1 MM2 HOW1 HOW2
  have HI := Lib.hid (Below.refl V.heap.size V)
  go_upto_region 7 with (fail)
  have hnn : ((n : Int) != (n : Int)) = false := by simp
  have hpp : (ps != ps) = false := by simp
  have HCP := Lib.hid (HPA.out _ (HVA.out _ HI.out)).regrown
  have HCQ := Lib.hid (HQA.out _ (HVA.out _ HI.out)).regrown
  have hbr : ∀ dd os, Below w.heap.size w (grow (redrawn V dd) os) := fun dd os => HBA.out _ (HVA.out _ (below_regrown V dd os))
  have c30 := fun dd os => Calls.regrown_of (MP1.out _ (hbr dd os))
  have c32 := fun dd os => Calls.regrown_of (MP2.out _ (hbr dd os))
  have c37 := fun dd os => Calls.regrown_of (MN1.out _ (hbr dd os))
  clear hbr
  refine wp_region_quiet_below (by kernel_rfl) (by kernel_rfl) ?_
  iterate 6 (go_big_quiet_step (fail))
  refine wpQuiet_pos (by rfl) _ (by rfl) w.heap.size P X HX.out (by rfl) HCP.out ?_
  try simp only [Act.put, List.setIfInBounds_toArray, List.set_cons_zero, List.set_cons_succ]
  go_big_quiet_step (exact c30 _ _)
  refine wpQuiet_pos (by rfl) _ (by rfl) b3 T Y HY.out (by rfl) HCQ.out ?_
  try simp only [Act.put, List.setIfInBounds_toArray, List.set_cons_zero, List.set_cons_succ]
  go_big_quiet_step (exact c32 _ _)
  iterate 3 (go_big_quiet_step (fail))
  refine wpQuiet_pos (by rfl) _ (by rfl) w.heap.size P X HX.out (by rfl) HCP.out ?_
  try simp only [Act.put, List.setIfInBounds_toArray, List.set_cons_zero, List.set_cons_succ]
  go_big_quiet_step (exact c37 _ _)
  repeat (go_big_quiet_step (fail))
  refine wpQuiet_nil ?_
  rintro W9 ⟨pq, rfl⟩
  replace HI := Lib.hid (below_regrown V pq.d pq.os)
  clear c30 c32 c37 HCP HCQ hpp MP1 MP2
  generalize grow (redrawn V pq.d) pq.os = W9 at HI ⊢
  go_wp2
  go_loopw [6] (fun v wr => ∃ m : Nat, m ≤ n ∧ v = .int .i64 (m : Int) ∧ Below V.heap.size V wr) (fun v _ => n - (intOf v).toNat)
  case atStart => exact ⟨0, Nat.zero_le _, rfl, HI.out⟩
  case round =>
    clear HI
    obtain ⟨m, hm, rfl, hb⟩ := hrel
    have HI := Lib.hid hb
    clear hb
    by_cases hlt : m < n
    · have hl : Reads3 wr.heap.size wr p1 n (mF (lmM P)) (mT (lmM P)) (mK (lmM P)) := HR1A.out _ HI.out
      obtain ⟨hp1, hl1, hl2, hl3, hl4⟩ := HPOS.out (by omega)
      obtain ⟨s, t, k, q1', q2', q3', hg, hel⟩ := leg_at P hp1 m (by rw [hl1]; exact hlt)
      rw [hl2, hl3, hl4] at hl
      obtain ⟨lb, lo, rfl⟩ := hl.addr hlt
      obtain ⟨x0, x1, x2⟩ := hl.cells hlt
      rw [q1'] at x0
      rw [q2'] at x1
      rw [q3'] at x2
      have hti := HTI.out hp1 s t k (by rw [← hel]; exact List.getElem_mem _)
      have hs := hg.x.mv.hs
      have ht := hg.x.mv.hn
      obtain ⟨f, hf⟩ : ∃ f : Int, (s : Int) = f := ⟨_, rfl⟩
      obtain ⟨y, hy⟩ : ∃ f : Int, (t : Int) = f := ⟨_, rfl⟩
      have f0 : 0 ≤ f := by omega
      have f1 : f < 64 := by omega
      have t0 : 0 ≤ y := by omega
      have t1 : y < 64 := by omega
      rw [hf] at x0 hti
      rw [hy] at x1 hti
      obtain ⟨q1, hq1⟩ : ∃ z, f / 8 = z := ⟨_, rfl⟩
      obtain ⟨r1, hr1⟩ : ∃ z, f % 8 = z := ⟨_, rfl⟩
      obtain ⟨q2, hq2⟩ : ∃ z, y / 8 = z := ⟨_, rfl⟩
      obtain ⟨r2, hr2⟩ : ∃ z, y % 8 = z := ⟨_, rfl⟩
      obtain ⟨g, hg'⟩ : ∃ z, mI f = z := ⟨_, rfl⟩
      obtain ⟨h, hh⟩ : ∃ z, mI y = z := ⟨_, rfl⟩
      rw [hg', hh] at hti
      have MI1 := Lib.hid (MI.out g h k)
      rw [hti] at MI1
      have u1 : f.tdiv 8 = q1 := by rw [Int.tdiv_eq_ediv_of_nonneg f0]; exact hq1
      have u2 : f.tmod 8 = r1 := by rw [Int.tmod_eq_emod_of_nonneg f0]; exact hr1
      have u3 : wrap64 q1 = q1 := by unfold wrap64; omega
      have u4 : wrap64 (7 - q1) = 7 - q1 := by unfold wrap64; omega
      have u5' : wrap64 (8 * (7 - q1)) = 8 * (7 - q1) := by unfold wrap64; omega
      have u6' : wrap64 (8 * (7 - q1) + r1) = g := by rw [← hg']; unfold wrap64 mI; omega
      have v1 : y.tdiv 8 = q2 := by rw [Int.tdiv_eq_ediv_of_nonneg t0]; exact hq2
      have v2 : y.tmod 8 = r2 := by rw [Int.tmod_eq_emod_of_nonneg t0]; exact hr2
      have v3 : wrap64 q2 = q2 := by unfold wrap64; omega
      have v4 : wrap64 (7 - q2) = 7 - q2 := by unfold wrap64; omega
      have v5 : wrap64 (8 * (7 - q2)) = 8 * (7 - q2) := by unfold wrap64; omega
      have v6 : wrap64 (8 * (7 - q2) + r2) = h := by rw [← hh]; unfold wrap64 mI; omega
      have hxM : (m : Int) < (n : Int) := by omega
      have i0 : (0 : Int) ≤ (m : Int) := by omega
      clear hl hp1 hl1 hl2 hl3 hl4 q1' q2' q3' hg hel hti hs ht hf hy hq1 hr1 hq2 hr2 hg' hh f0 f1 t0 t1
      go_upto_region 13 with (fail)
      refine forget_B (fun W => LMt V W wr.heap.size f y k) ⟨HI.out.alloc HI.out.size _, sl_at rfl, HI.out.size⟩ ?_
      clear x0 x1 x2
      intro W2 h2
      have HM := Lib.hid h2
      clear h2 HI
      generalize wr.heap.size = mb at HM ⊢
      obtain ⟨m0, m1, m2, mf, mz⟩ := row3 HM.out.m
      go_upto_region 14 with (fail)
      refine forget_B (fun W => LMt V W mb g y k) (HM.out.set0 g) ?_
      clear HM m0 m1 m2 mf mz u1 u2 u3 u4 u5' u6'
      intro W3 h2
      have HM := Lib.hid h2
      clear h2
      obtain ⟨m0, m1, m2, mf, mz⟩ := row3 HM.out.m
      go_upto_region 15 with (fail)
      refine forget_B (fun W => LMt V W mb g h k) (HM.out.set1 h) ?_
      clear HM m0 m1 m2 mf mz v1 v2 v3 v4 v5 v6
      intro W4 h2
      have HM := Lib.hid h2
      clear h2
      obtain ⟨m0, m1, m2, mf, mz⟩ := row3 HM.out.m
      go_wp2_with (refine wpList_pos (by rfl) _ (by rfl) b3 T Y HY.out (by rfl) (HQA.out _ (HVA.out _ HM.out.b)) ?_)
      refine (MI1.out _ (HBA.out _ (HVA.out _ HM.out.b))).mono ?_
      rintro e w8 ⟨rfl, hb⟩
      have HI := Lib.hid (HM.out.b.trans (hb.mono HM.out.b.size))
      clear hb HM m0 m1 m2 mf mz MI1
      dsimp only
      refine list_go (by assumption) ?_
      go_wp2
      go_roundw
      case rel => exact ⟨m + 1, by omega, by go_num, HI.out⟩
      case measure => simp [intOf]; omega
    · obtain rfl : m = n := by omega
      clear MI HTI
      go_wp2_with (refine wpList_pos (by rfl) _ (by rfl) w.heap.size P X HX.out (by rfl) (HPA.out _ (HVA.out _ HI.out)) ?_)
      refine (MF.out _).mono ?_
      rintro e w8 ⟨v, rfl, hb, hown⟩
      replace HI := Lib.hid (HI.out.trans (hb.mono HI.out.size))
      obtain ⟨fp, fm, fc, rfl⟩ := owns_slice hown
      obtain rfl : fm = fl := by
        rcases hown.2 with ⟨e, h0⟩ | ⟨_, _, _, e, _⟩
        · injection e with e1 e2 e3; omega
        · injection e with e1 e2 e3
      have hfl := HFL.out
      clear hb hown MF
      dsimp only
      refine list_go (by assumption) ?_
      have hw : wrap64 (64 - (fm : Int)) = 64 - (fm : Int) := by unfold wrap64; omega
      by_cases h8 : (8 : Int) < 64 - (fm : Int)
      · go_wp2
        go_ret
        exact ⟨rfl, HBA.out _ (HVA.out _ HI.out)⟩
      · go_wp2
        go_loopw [8, 9] (fun sv iv wr => ∃ j : Nat, j ≤ m ∧ iv = .int .i64 (j : Int) ∧ sv = .int .i64 ((cntU P j : Nat) : Int) ∧ Below V.heap.size V wr) (fun _ iv _ => m - (intOf iv).toNat)
        case atStart => exact ⟨0, Nat.zero_le _, rfl, by rw [cntU_zero]; rfl, HI.out⟩
        case round =>
          clear HI
          obtain ⟨j, hj, rfl, rfl, hb⟩ := hrel
          have HI := Lib.hid hb
          clear hb
          by_cases hlt : j < m
          · have hl : Reads3 wr.heap.size wr p1 m (mF (lmM P)) (mT (lmM P)) (mK (lmM P)) := HR1A.out _ HI.out
            obtain ⟨hp1, hl1, hl2, hl3, hl4⟩ := HPOS.out (by omega)
            obtain ⟨s, t, k, q1, q2, q3, hg, hel⟩ := leg_at P hp1 j (by rw [hl1]; exact hlt)
            have hstep := cntU_step P j (by rw [hl1]; exact hlt) s t k hel hg.nx
            have hmx := cntU_max P (j + 1)
            have hmx0 := cntU_max P j
            have MV1 := Lib.hid (MV.out (s : Int) (t : Int) k)
            have hfl2 := hg.x.flt
            have hpos := hg.pos
            simp only at hfl2 hpos
            obtain ⟨N, hN⟩ : ∃ x, mvP P (s : Int) (t : Int) k = x := ⟨_, rfl⟩
            obtain ⟨V9, hV9⟩ : ∃ V, V = (pc N).toArray := ⟨_, rfl⟩
            rw [hfl2, hN, ← hV9] at MV1
            rw [hN] at hstep hpos
            have MC9 := Lib.hid (MN.out N 1)
            have hcn : cntP N 1 = cntD 1 N := by unfold cntP; rw [hpos]; rfl
            rw [hcn, ← hV9] at MC9
            obtain ⟨cs, hcs⟩ : ∃ z : Int, ((cntU P j : Nat) : Int) = z := ⟨_, rfl⟩
            obtain ⟨cn, hcn2⟩ : ∃ z : Int, ((cntD 1 N : Nat) : Int) = z := ⟨_, rfl⟩
            obtain ⟨cs2, hcs2⟩ : ∃ z : Int, ((cntU P (j + 1) : Nat) : Int) = z := ⟨_, rfl⟩
            have hA : wrap64 (cs + cn) = cs2 := by unfold wrap64; omega
            rw [hcn2] at MC9
            rw [hcs]
            have HA := Lib.hid hA
            have HCS2 := Lib.hid hcs2
            rw [hl2, hl3, hl4] at hl
            obtain ⟨pb, po, rfl⟩ := hl.addr hlt
            have HCE := Lib.hid (show ∀ W, Below V.heap.size V W → W.cell? ⟨pb, po + j * 3, none⟩ = some (.int .i64 (s : Int)) ∧ W.cell? ⟨pb, po + j * 3 + 1, none⟩ = some (.int .i64 (t : Int)) ∧ W.cell? ⟨pb, po + j * 3 + 2, none⟩ = some (.int .i64 k) from fun W hb => by
              have := (HR1A.out W hb).cells hlt
              rw [hl2, hl3, hl4, q1, q2, q3] at this
              exact this)
            have HPW := Lib.hid (show ∀ W, Below V.heap.size V W → PB W w.heap.size P from fun W hb => HPA.out _ (HVA.out _ hb))
            have HV := Lib.hid hV9
            have HVL := Lib.hid (show V9.toList = pc N by rw [hV9])
            have i0 : (0 : Int) ≤ (j : Int) := by omega
            have hlti : (j : Int) < (m : Int) := by omega
            clear hl hp1 hl1 hl2 hl3 hl4 q1 q2 q3 hg hel hstep hmx hmx0 hfl2 hpos hN hV9 hcn hcs hcn2 hcs2 hA hw
            go_upto_region 23 with (fail)
            go_cut [10, 11] from 88 to 96 (fun v8 v9 wx => ∃ H, v8 = .pointer (some ⟨H, 0, none⟩) ∧ v9 = .int .i64 0 ∧ PB wx H N ∧ Below V.heap.size V wx)
            case first =>
              refine wp_region_noPanic ?_
              refine wp_region_start (n := 12) (l := #[ff, ff, ff, ff, ff, ff, ff, ff, ff, ff, ff, ff]) (S := (fun W => Below V.heap.size V W)) (by kernel_rfl) rfl (by kernel_rfl) (by first | exact HI.out | exact HI.out.drew) (fun hHeld => ?_)
              replace HI := Lib.hid (show Below V.heap.size V wr.drew from HI.out.drew)
              generalize wr.drew = V0 at hHeld HI ⊢
              refine take_go (i := 0) (d := some 89) (v := (.agg X)) (l' := #[tt, ff, ff, ff, ff, ff, ff, ff, ff, ff, ff, ff]) rfl rfl ?_ ?_
              · exact yields_posC (by rfl) _ (by rfl) w.heap.size P X HX.out (by rfl) (fun W h => HPW.out W h)
              try simp only [Act.put, List.setIfInBounds_toArray, List.set_cons_zero, List.set_cons_succ]
              refine take_go (i := 1) (d := some 90) (v := ?_) (l' := #[tt, tt, ff, ff, ff, ff, ff, ff, ff, ff, ff, ff]) rfl rfl (Or.inl ⟨by rfl, ?_⟩) ?_; rotate_left; · (intro w' hSw; (try dsimp only at hSw); go_simp; (try with_reducible rfl))
              try simp only [Act.put, List.setIfInBounds_toArray, List.set_cons_zero, List.set_cons_succ]
              refine take_go (i := 2) (d := some 91) (v := ?_) (l' := #[tt, tt, tt, ff, ff, ff, ff, ff, ff, ff, ff, ff]) rfl rfl (Or.inl ⟨by rfl, ?_⟩) ?_; rotate_left; · (intro w' hSw; (try dsimp only at hSw); go_simp; (try with_reducible rfl))
              try simp only [Act.put, List.setIfInBounds_toArray, List.set_cons_zero, List.set_cons_succ]
              refine take_go (i := 3) (d := some 92) (v := ?_) (l' := #[tt, tt, tt, tt, ff, ff, ff, ff, ff, ff, ff, ff]) rfl rfl (Or.inl ⟨by rfl, ?_⟩) ?_; rotate_left; · (intro w' hSw; (try dsimp only at hSw); go_simp; (try with_reducible rfl))
              try simp only [Act.put, List.setIfInBounds_toArray, List.set_cons_zero, List.set_cons_succ]
              refine take_go (i := 4) (d := some 93) (v := (.agg #[.int .i64 (s : Int), .int .i64 (t : Int), .int .i64 k])) (l' := #[tt, tt, tt, tt, tt, ff, ff, ff, ff, ff, ff, ff]) rfl rfl ?_ ?_
              · refine Or.inl ⟨by rfl, ?_⟩; intro w' hSw; (try dsimp only at hSw); obtain ⟨e0, e1, e2⟩ := HCE.out w' hSw; go_simp
              try simp only [Act.put, List.setIfInBounds_toArray, List.set_cons_zero, List.set_cons_succ]
              refine two_to (i := 5) (j := 9) (l1 := #[tt, tt, tt, tt, tt, tt, ff, ff, ff, ff, ff, ff]) (l2 := #[tt, tt, tt, tt, tt, ff, ff, ff, ff, tt, ff, ff]) rfl rfl (by kernel_rfl) (by kernel_rfl) (by kernel_rfl) (fun K hK => ?_) (fun K hK => ?_)
              · skip
                go_simp
                refine (MV1.out _ (HBA.out _ (HVA.out _ HI.out))).mono ?_
                rintro e V0 ⟨rfl, hb⟩
                replace HI := Lib.hid (HI.out.trans (hb.mono HI.out.size))
                try replace HZB := Lib.hid (HZB.out.go hb)
                clear hb
                dsimp only
                refine hK.out _ _ (by first | exact HI.out | exact HI.out.drew) (fun hHeld => ?_)
                clear hK K
                try simp only [Act.put, List.setIfInBounds_toArray, List.set_cons_zero, List.set_cons_succ]
                refine take_go (i := 6) (d := some 88) (v := ?_) (l' := #[tt, tt, tt, tt, tt, tt, tt, ff, ff, ff, ff, ff]) rfl rfl (Or.inl ⟨by rfl, ?_⟩) ?_; rotate_left; · (intro w' hSw; (try dsimp only at hSw); go_simp; (try with_reducible rfl))
                try simp only [Act.put, List.setIfInBounds_toArray, List.set_cons_zero, List.set_cons_succ]
                refine take_go (i := 7) (d := some 95) (v := ?_) (l' := #[tt, tt, tt, tt, tt, tt, tt, tt, ff, ff, ff, ff]) rfl rfl (Or.inl ⟨by rfl, ?_⟩) ?_; rotate_left; · (intro w' hSw; (try dsimp only at hSw); go_simp; (try with_reducible rfl))
                try simp only [Act.put, List.setIfInBounds_toArray, List.set_cons_zero, List.set_cons_succ]
                refine take_go (i := 8) (d := some 96) (v := ?_) (l' := #[tt, tt, tt, tt, tt, tt, tt, tt, tt, ff, ff, ff]) rfl rfl (Or.inl ⟨by rfl, ?_⟩) ?_; rotate_left; · (intro w' hSw; (try dsimp only at hSw); go_simp; (try with_reducible rfl))
                try simp only [Act.put, List.setIfInBounds_toArray, List.set_cons_zero, List.set_cons_succ]
                refine one_to (i := 9) (l' := #[tt, tt, tt, tt, tt, tt, tt, tt, tt, tt, ff, ff]) rfl (by kernel_rfl) (by kernel_rfl) (fun K hK => ?_)
                go_simp
                have hb5 : Below V0.heap.size V0 (V0.alloc (.cells Tryz.zeroCells29 29)) := below_new _
                have HZB := Lib.hid (show PB (V0.alloc (.cells Tryz.zeroCells29 29)) V0.heap.size (fun _ => 0) by rw [zeroPos]; exact PB.new rfl)
                have HHL := Lib.hid (show V.heap.size ≤ V0.heap.size from HI.out.size)
                replace HI := Lib.hid (HI.out.trans (hb5.mono HI.out.size))
                clear hb5
                generalize V0.heap.size = H at HZB HHL ⊢
                generalize V0.alloc (.cells Tryz.zeroCells29 29) = V0 at *
                refine hK.out _ _ (by first | exact HI.out | exact HI.out.drew) (fun hHeld => ?_)
                clear hK K
                try simp only [Act.put, List.setIfInBounds_toArray, List.set_cons_zero, List.set_cons_succ]
                refine one_to (i := 10) (l' := #[tt, tt, tt, tt, tt, tt, tt, tt, tt, tt, tt, ff]) rfl (by kernel_rfl) (by kernel_rfl) (fun K hK => ?_)
                rw [if_pos (by rfl)]
                refine wp_store_mid 29 _ _ rfl H 0 V9 rfl rfl (by rw [HV.out, pc_size]; exact HZB.out.there) (by rw [infoPos, HV.out, pc_size]) (by rw [HV.out]; exact pc_one _) ?_
                rw [HVL.out]
                have HNB := Lib.hid (HZB.out.store (Q := N))
                replace HI := Lib.hid (below_store (b := H) N HI.out HHL.out HI.out.size)
                generalize V0.setCells H 0 (pc N) = V0 at HNB HI ⊢
                refine hK.out _ _ (by first | exact HI.out | exact HI.out.drew) (fun hHeld => ?_)
                clear hK K
                try simp only [Act.put, List.setIfInBounds_toArray, List.set_cons_zero, List.set_cons_succ]
                refine take_go (i := 11) (d := some 11) (v := ?_) (l' := #[tt, tt, tt, tt, tt, tt, tt, tt, tt, tt, tt, tt]) rfl rfl (Or.inl ⟨by rfl, ?_⟩) ?_; rotate_left; · (intro w' hSw; (try dsimp only at hSw); go_simp; (try with_reducible rfl))
                try simp only [Act.put, List.setIfInBounds_toArray, List.set_cons_zero, List.set_cons_succ]
                refine wpAnyH_done (by kernel_rfl) ?_ _
                refine NoPanic.normal ?_
                clear hHeld
                go_wp2_with fail
                go_meet
                exact ⟨H, rfl, rfl, HNB.out, HI.out⟩
              · skip
                go_simp
                have hb5 : Below V0.heap.size V0 (V0.alloc (.cells Tryz.zeroCells29 29)) := below_new _
                have HZB := Lib.hid (show PB (V0.alloc (.cells Tryz.zeroCells29 29)) V0.heap.size (fun _ => 0) by rw [zeroPos]; exact PB.new rfl)
                have HHL := Lib.hid (show V.heap.size ≤ V0.heap.size from HI.out.size)
                replace HI := Lib.hid (HI.out.trans (hb5.mono HI.out.size))
                clear hb5
                generalize V0.heap.size = H at HZB HHL ⊢
                generalize V0.alloc (.cells Tryz.zeroCells29 29) = V0 at *
                refine hK.out _ _ (by first | exact HI.out | exact HI.out.drew) (fun hHeld => ?_)
                clear hK K
                try simp only [Act.put, List.setIfInBounds_toArray, List.set_cons_zero, List.set_cons_succ]
                refine one_to (i := 5) (l' := #[tt, tt, tt, tt, tt, tt, ff, ff, ff, tt, ff, ff]) rfl (by kernel_rfl) (by kernel_rfl) (fun K hK => ?_)
                go_simp
                refine (MV1.out _ (HBA.out _ (HVA.out _ HI.out))).mono ?_
                rintro e V0 ⟨rfl, hb⟩
                replace HI := Lib.hid (HI.out.trans (hb.mono HI.out.size))
                try replace HZB := Lib.hid (HZB.out.go hb)
                clear hb
                dsimp only
                refine hK.out _ _ (by first | exact HI.out | exact HI.out.drew) (fun hHeld => ?_)
                clear hK K
                try simp only [Act.put, List.setIfInBounds_toArray, List.set_cons_zero, List.set_cons_succ]
                refine take_go (i := 6) (d := some 88) (v := ?_) (l' := #[tt, tt, tt, tt, tt, tt, tt, ff, ff, tt, ff, ff]) rfl rfl (Or.inl ⟨by rfl, ?_⟩) ?_; rotate_left; · (intro w' hSw; (try dsimp only at hSw); go_simp; (try with_reducible rfl))
                try simp only [Act.put, List.setIfInBounds_toArray, List.set_cons_zero, List.set_cons_succ]
                refine take_go (i := 7) (d := some 95) (v := ?_) (l' := #[tt, tt, tt, tt, tt, tt, tt, tt, ff, tt, ff, ff]) rfl rfl (Or.inl ⟨by rfl, ?_⟩) ?_; rotate_left; · (intro w' hSw; (try dsimp only at hSw); go_simp; (try with_reducible rfl))
                try simp only [Act.put, List.setIfInBounds_toArray, List.set_cons_zero, List.set_cons_succ]
                refine take_go (i := 8) (d := some 96) (v := ?_) (l' := #[tt, tt, tt, tt, tt, tt, tt, tt, tt, tt, ff, ff]) rfl rfl (Or.inl ⟨by rfl, ?_⟩) ?_; rotate_left; · (intro w' hSw; (try dsimp only at hSw); go_simp; (try with_reducible rfl))
                try simp only [Act.put, List.setIfInBounds_toArray, List.set_cons_zero, List.set_cons_succ]
                refine one_to (i := 10) (l' := #[tt, tt, tt, tt, tt, tt, tt, tt, tt, tt, tt, ff]) rfl (by kernel_rfl) (by kernel_rfl) (fun K hK => ?_)
                rw [if_pos (by rfl)]
                refine wp_store_mid 29 _ _ rfl H 0 V9 rfl rfl (by rw [HV.out, pc_size]; exact HZB.out.there) (by rw [infoPos, HV.out, pc_size]) (by rw [HV.out]; exact pc_one _) ?_
                rw [HVL.out]
                have HNB := Lib.hid (HZB.out.store (Q := N))
                replace HI := Lib.hid (below_store (b := H) N HI.out HHL.out HI.out.size)
                generalize V0.setCells H 0 (pc N) = V0 at HNB HI ⊢
                refine hK.out _ _ (by first | exact HI.out | exact HI.out.drew) (fun hHeld => ?_)
                clear hK K
                try simp only [Act.put, List.setIfInBounds_toArray, List.set_cons_zero, List.set_cons_succ]
                refine take_go (i := 11) (d := some 11) (v := ?_) (l' := #[tt, tt, tt, tt, tt, tt, tt, tt, tt, tt, tt, tt]) rfl rfl (Or.inl ⟨by rfl, ?_⟩) ?_; rotate_left; · (intro w' hSw; (try dsimp only at hSw); go_simp; (try with_reducible rfl))
                try simp only [Act.put, List.setIfInBounds_toArray, List.set_cons_zero, List.set_cons_succ]
                refine wpAnyH_done (by kernel_rfl) ?_ _
                refine NoPanic.normal ?_
                clear hHeld
                go_wp2_with fail
                go_meet
                exact ⟨H, rfl, rfl, HNB.out, HI.out⟩
            case rest =>
            obtain ⟨H, rfl, rfl, h1, h2⟩ := hcut
            have HPN := Lib.hid h1
            replace HI := Lib.hid h2
            clear h1 h2 MV1 HCE
            go_wp2_with (refine wpList_pos (by rfl) _ (by rfl) H N V9 HV.out (by rfl) HPN.out ?_)
            refine (MC9.out _ (HBA.out _ (HVA.out _ HI.out))).mono ?_
            rintro e w9 ⟨rfl, hb⟩
            replace HI := Lib.hid (HI.out.trans (hb.mono HI.out.size))
            have hA := HA.out
            clear hb HPN MC9
            dsimp only
            refine list_go (by assumption) ?_
            go_wp2
            go_roundw
            case rel => exact ⟨j + 1, by omega, by go_num, by rw [HCS2.out]; first | rw [HA.out] | rfl, HI.out⟩
            case measure => simp [intOf]; omega
          · obtain rfl : j = m := by omega
            rw [HC2.out] at MN2 MN3
            obtain ⟨cv, hcv⟩ : ∃ z : Int, ((cntU P j : Nat) : Int) = z := ⟨_, rfl⟩
            rw [hcv] at MN2 MN3
            rw [hcv]
            have hcc : (cv == cv) = true := by simp
            clear hcv HC2
            go_wp2_with (refine wpList_pos (by rfl) _ (by rfl) w.heap.size P X HX.out (by rfl) (HPA.out _ (HVA.out _ HI.out)) ?_)
            refine (MN2.out _ (HBA.out _ (HVA.out _ HI.out))).mono ?_
            rintro e w9 ⟨rfl, hb⟩
            replace HI := Lib.hid (HI.out.trans (hb.mono HI.out.size))
            clear hb MN2
            dsimp only
            refine list_go (by assumption) ?_
            go_wp2_with (refine wpList_pos (by rfl) _ (by rfl) b3 T Y HY.out (by rfl) (HQA.out _ (HVA.out _ HI.out)) ?_)
            refine (MN3.out _ (HBA.out _ (HVA.out _ HI.out))).mono ?_
            rintro e w10 ⟨rfl, hb⟩
            replace HI := Lib.hid (HI.out.trans (hb.mono HI.out.size))
            clear hb MN3
            dsimp only
            refine list_go (by assumption) ?_
            go_wp2
            go_ret
            exact ⟨rfl, HBA.out _ (HVA.out _ HI.out)⟩
end Go.Proofs.YthinkiljhkanhaaGreatDoor
