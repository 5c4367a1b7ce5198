/-
  Merged: Rc, Rd.
-/
import Derived.Test.YtcdnakbdajbfoaaGreatDoorG25

namespace Go.Proofs.YtcdnakbdajbfoaaGreatDoor
open Go.RowKit Go.Sort
set_option linter.unusedSimpArgs false
set_option linter.unusedVariables false
set_option maxRecDepth 20000

def badC (P : Nat → Int) (s n : Nat) : Bool := cstM P s n && !freeB P s n
def badQ (P : Nat → Int) (s n : Nat) (k : Int) : Bool := !(fltN (handP P) s n k == 0) || chkB (mvP P s n k) (P 128)
def okM (P : Nat → Int) (s n : Nat) (k : Int) : Bool := !badC P s n && !badQ P s n k
def nxP (P : Nat → Int) (s n : Nat) (k : Int) : Nat → Int := if okM P s n k then mvP P s n k else fun _ => 0
theorem infoJudge : (Tryz.prog.info? 70).map (·.size) = some 133 := by kernel_rfl
theorem zeroJudge : Tryz.zeroCells70 = (pc fun _ => 0).toArray := by kernel_rfl
theorem fold_jud (X : Array Value) (hX : X.size = 133) : Array.foldl (fun (cs : Array Value) (x : Value × Nat) => cs.setIfInBounds x.2 x.1) Tryz.zeroCells70 X.zipIdx 0 133 = X := by
  apply Array.ext_getElem?
  intro i
  have hz : Tryz.zeroCells70.size = 133 := by rw [zeroJudge, pc_size]
  rw [show (133 : Nat) = X.zipIdx.size by simp [hX], ← Array.foldl_toList]
  rw [Array.toList_zipIdx, fold_setF X.toList 0 _ (by simp [hX, hz]) i]
  by_cases h : i < 133
  · rw [if_pos (by simp [hX, h]), Nat.sub_zero, Array.getElem?_toList]
  · rw [if_neg (by simp [hX]; omega), Array.getElem?_eq_none (by omega), Array.getElem?_eq_none (by omega)]
structure JB (B b : Nat) (P : Nat → Int) (w W : World) (f t k : Int) : Prop where
  j : JQ B b P w W
  m : W.heap[w.heap.size]? = some (.cells #[.int .i64 f, .int .i64 t, .int .i64 k] 52 (0, 0))
  z : PB W (w.heap.size + 1) (fun _ => 0)
  s : w.heap.size + 2 ≤ W.heap.size
  l : b < w.heap.size
theorem JB.go {B b : Nat} {P : Nat → Int} {w W W' : World} {f t k : Int} (h : JB B b P w W f t k) (g : Below W.heap.size W W') : JB B b P w W' f t k :=
  ⟨h.j.go g, sl_go h.m g, h.z.go g, Nat.le_trans h.s g.size, h.l⟩
theorem JB.begin {B b : Nat} {P : Nat → Int} {w : World} {f t k : Int} (h : JQ B b P w w) :
    JB B b P w ((w.alloc (.cells #[.int .i64 f, .int .i64 t, .int .i64 k] 52)).alloc (.cells Tryz.zeroCells70 70)) f t k := by
  have hb : Below w.heap.size w ((w.alloc (.cells #[.int .i64 f, .int .i64 t, .int .i64 k] 52)).alloc (.cells Tryz.zeroCells70 70)) := (below_new _).alloc (by simp) _
  refine ⟨h.go hb, al_old (sl_at rfl) _, ?_, by simp, h.p.lt⟩
  have hz : PB ((w.alloc (.cells #[.int .i64 f, .int .i64 t, .int .i64 k] 52)).alloc (.cells Tryz.zeroCells70 70)) (w.alloc (.cells #[.int .i64 f, .int .i64 t, .int .i64 k] 52)).heap.size (fun _ => 0) := by rw [zeroJudge]; exact PB.new rfl
  simpa using hz
theorem JB.other {B b : Nat} {P : Nat → Int} {w W : World} {f t k : Int} {H : Nat} (h : JB B b P w W f t k) (hH : w.heap.size + 2 ≤ H) (Q : Nat → Int) : JB B b P w (W.setCells H 0 (pc Q)) f t k := by
  have hb : Below (w.heap.size + 2) W (W.setCells H 0 (pc Q)) := below_store (b := H) Q (Below.refl _ _) hH h.s
  have hk := h.j.k
  have hl := h.l
  exact ⟨⟨h.j.p.below hb (by omega), h.j.gb.below (hb.mono (by omega)), h.j.gs.below (hb.mono (by omega)), h.j.gm.below (hb.mono (by omega)), h.j.gp.below (hb.mono (by omega)), h.j.bel.trans (hb.mono (by omega)), h.j.k⟩, (hb.block _ (by omega)).trans h.m, h.z.below hb (by omega), Nat.le_trans h.s hb.size, h.l⟩
theorem JB.stored {B b : Nat} {P Q : Nat → Int} {w W : World} {f t k : Int} (h : JB B b P w W f t k) : (W.setCells (w.heap.size + 1) 0 (pc Q)).rangeAt (w.heap.size + 1) 0 (pc Q) ∧ Below w.heap.size w (W.setCells (w.heap.size + 1) 0 (pc Q)) :=
  ⟨(h.z.store (Q := Q)).range, below_store (b := w.heap.size + 1) Q h.j.bel (by omega) h.j.bel.size⟩
set_option maxHeartbeats 8000000 in
set_option maxRecDepth 100000 in
theorem behind_any (B b : Nat) (P : Nat → Int) (s n : Nat) (k : Int) (hs : s < 64) (hn : n < 64) (w : World) (h : JQ B b P w w) :
    Calls Tryz.prog 54 #[.pointer (some ⟨b, 0, none⟩), .agg #[.int .i64 (s : Int), .int .i64 (n : Int), .int .i64 k]] w fun e w' => e = .returned (.tuple #[.agg (pc (nxP P s n k)).toArray, .bool (okM P s n k)]) ∧ Below w.heap.size w w' := by
  obtain ⟨X, hX⟩ : ∃ X, X = (pc P).toArray := ⟨_, rfl⟩
  have HI := Lib.hid (JB.begin (f := (s : Int)) (t := (n : Int)) (k := k) h)
  have MC1 := Lib.hid (fun W h => jCst_any b P s n k hs hn W h)
  have MF1 := Lib.hid (fun W h => jFree_any B b P s n k hs hn W h)
  have MV := Lib.hid (fun W h1 h2 => move_any P (s : Int) (n : Int) k W B h1 h2)
  obtain ⟨q, hq⟩ : ∃ q, mvP P (s : Int) (n : Int) k = q := ⟨_, rfl⟩
  obtain ⟨er, her⟩ : ∃ x, fltN (handP P) (s : Int) (n : Int) k = x := ⟨_, rfl⟩
  obtain ⟨sd, hsd⟩ : ∃ x, P 128 = x := ⟨_, rfl⟩
  obtain ⟨ch, hch⟩ : ∃ x, chkB q sd = x := ⟨_, rfl⟩
  obtain ⟨bc, hbc⟩ : ∃ x, badC P s n = x := ⟨_, rfl⟩
  obtain ⟨cv, hcv⟩ : ∃ x, cstM P s n = x := ⟨_, rfl⟩
  obtain ⟨fv, hfv⟩ : ∃ x, freeB P s n = x := ⟨_, rfl⟩
  obtain ⟨Y, hY⟩ : ∃ Y, Y = (pc q).toArray := ⟨_, rfl⟩
  rw [hcv] at MC1
  rw [hfv] at MF1
  rw [hq, her, ← hX, ← hY] at MV
  have hbc2 : (cv && !fv) = bc := by rw [← hbc]; unfold badC; rw [hcv, hfv]
  have HOK := Lib.hid (show okM P s n k = (!bc && !(!(er == 0) || ch)) by unfold okM badQ; rw [hbc, her, hq, hsd, hch])
  have HNX := Lib.hid (show nxP P s n k = if okM P s n k then q else fun _ => 0 by unfold nxP; rw [hq])
  have MK := Lib.hid (fun W h1 h2 => chk_any q sd W B h1 h2)
  rw [hch, ← hY] at MK
  have HX := Lib.hid hX
  have HY := Lib.hid hY
  have HYL := Lib.hid (show Y.toList = pc q by rw [hY])
  have HSD := Lib.hid hsd
  have hfold := fold_jud Y (by rw [hY, pc_size])
  have HFO := Lib.hid hfold
  generalize okM P s n k = ok at *
  generalize nxP P s n k = nx at *
  clear hX h hq her hch hbc hcv hfv hY hsd hn hs hfold
  go_enter Tryz.func54, Tryz.ntmps54
  go_upto_region 1 with (fail)
  refine forget_B (fun W => JB B b P w W (s : Int) (n : Int) k) HI.out ?_
  clear HI
  intro W hi
  have HI := Lib.hid hi
  clear hi
  go_cut [16] from 8 to 16 (fun v wx => v = .bool bc ∧ JB B b P w wx (s : Int) (n : Int) k)
  case first =>
    obtain ⟨m0, m1, m2, mf, mz⟩ := row3 HI.out.m
    go_wp2_with fail
    refine (MC1.out _ HI.out.j.p).mono ?_
    rintro e w1 ⟨rfl, hb⟩
    replace HI := Lib.hid (HI.out.go hb)
    clear hb m0 m1 m2 mf mz
    have HBC := Lib.hid hbc2
    clear hbc2
    obtain ⟨m0, m1, m2, mf, mz⟩ := row3 HI.out.m
    cases cv
    · go_wp2_with fail
      go_meet
      exact ⟨by rw [← HBC.out]; rfl, HI.out⟩
    · go_wp2_with fail
      refine (MF1.out _ HI.out.j.anew).mono ?_
      rintro e w2 ⟨rfl, hb⟩
      replace HI := Lib.hid (HI.out.go hb)
      clear hb m0 m1 m2 mf mz
      go_wp2_with fail
      go_meet
      exact ⟨by rw [← HBC.out]; simp, HI.out⟩
  case rest =>
  obtain ⟨rfl, h1⟩ := hcut
  replace HI := Lib.hid h1
  clear h1 hbc2 MC1 MF1
  cases bc
  case true =>
    have HOK2 := Lib.hid (show ok = false by rw [HOK.out]; rfl)
    have HN2 := Lib.hid (show nx = fun _ => 0 by rw [HNX.out, HOK2.out]; rfl)
    clear HOK HNX MV MK
    go_upto_region 2 with (fail)
    refine forget_B (fun W => JB B b P w W (s : Int) (n : Int) k) HI.out ?_
    clear HI
    intro W2 hi
    have HI := Lib.hid hi
    clear hi
    go_upto_region 2 with (fail)
    refine wp_region_lit ?_
    refine wpList_plain rfl (fun K hK => ?_)
    go_simp
    refine hK _ _ ?_
    clear hK K
    refine wpList_store_mid rfl 70 _ _ rfl (w.heap.size + 1) 0 (pc fun _ => 0).toArray rfl (congrArg Value.agg zeroJudge) (by rw [pc_size]; exact HI.out.z.there) (by rw [infoJudge, pc_size]) (pc_one _) ?_
    rw [List.toList_toArray]
    obtain ⟨hr1, hb1⟩ := HI.out.stored (Q := fun _ => 0)
    have HR := Lib.hid hr1
    have HB := Lib.hid hb1
    clear hr1 hb1 HI
    generalize W2.setCells (w.heap.size + 1) 0 (pc fun _ => 0) = W8 at HR HB ⊢
    refine wpList_plain rfl (fun K hK => ?_)
    go_simp
    refine hK _ _ ?_
    clear hK K
    show Exit.then _ _ Exit.normal _ _
    refine ret_go (by assumption) ?_
    repeat (first | refine then_ret ?_ | refine block_ret ?_)
    refine bodyPost_ret (v := .tuple #[.agg (pc fun _ => 0).toArray, .bool false]) ?_ rfl ⟨by rw [HN2.out, HOK2.out], HB.out⟩
    exact results_mid2 (p := 4) (u := 5) (ty := 70) rfl _ W8 (w.heap.size + 1) _ _ _ rfl rfl HR.out Tryz.underlying70 rfl (by rw [infoJudge, pc_len])
  go_upto_region 3 with (fail)
  refine forget_B (fun W => JB B b P w W (s : Int) (n : Int) k) HI.out ?_
  clear HI
  intro W3 hi
  have HI := Lib.hid hi
  clear hi
  go_cut [6, 7] from 18 to 26 (fun v6 v7 wx => ∃ H, v6 = .pointer (some ⟨H, 0, none⟩) ∧ v7 = .int .i64 er ∧ PB wx H q ∧ JB B b P w wx (s : Int) (n : Int) k)
  case first =>
    refine wp_region_noPanic ?_
    refine wp_region_start (n := 12) (l := #[false, false, false, false, false, false, false, false, false, false, false, false]) (S := (fun W => JB B b P w W (s : Int) (n : Int) k)) (by kernel_rfl) rfl (by kernel_rfl) (by first | exact HI.out | exact HI.out.go (Below.refl _ _).drew) (fun hHeld => ?_)
    replace HI := Lib.hid (HI.out.go (Below.refl W3.heap.size W3).drew)
    generalize W3.drew = V at hHeld HI ⊢
    refine tq (i := 0) (d := some 19) rfl rfl ?_
    try simp only [aP, sA, sZ, sS]
    refine tq (i := 1) (d := some 20) rfl rfl ?_
    try simp only [aP, sA, sZ, sS]
    refine tq (i := 2) (d := some 21) rfl rfl ?_
    try simp only [aP, sA, sZ, sS]
    refine tg (i := 3) (d := some 22) (v := (.agg X)) rfl rfl ?_ ?_
    · exact yields_posC (by rfl) _ (by rfl) b P X HX.out (by rfl) (fun W h => h.j.p)
    try simp only [aP, sA, sZ, sS]
    refine tg (i := 4) (d := some 23) (v := (.agg #[.int .i64 (s : Int), .int .i64 (n : Int), .int .i64 k])) rfl rfl ?_ ?_
    · refine Or.inl ⟨by rfl, ?_⟩; intro w' hSw; (try dsimp only at hSw); obtain ⟨m0, m1, m2, mf, mz⟩ := row3 hSw.m; go_simp
    try simp only [aP, sA, sZ, sS]
    refine wg (i := 5) (j := 9) rfl rfl (by kernel_rfl) (fun K hK => ?_) (fun K hK => ?_)
    · skip
      go_simp
      refine (MV.out _ HI.out.j.gp HI.out.j.s).mono ?_
      rintro e V ⟨rfl, hb⟩
      replace HI := Lib.hid (HI.out.go hb)
      try replace HZB := Lib.hid (HZB.out.go hb)
      clear hb
      dsimp only
      refine hK.out _ _ (by first | exact HI.out | exact HI.out.go (Below.refl _ _).drew) (fun hHeld => ?_)
      clear hK K
      try simp only [aP, sA, sZ, sS]
      refine tq (i := 6) (d := some 18) rfl rfl ?_
      try simp only [aP, sA, sZ, sS]
      refine tq (i := 7) (d := some 25) rfl rfl ?_
      try simp only [aP, sA, sZ, sS]
      refine tq (i := 8) (d := some 26) rfl rfl ?_
      try simp only [aP, sA, sZ, sS]
      refine og (i := 9) rfl (by kernel_rfl) (fun K hK => ?_)
      go_simp
      have HZB := Lib.hid (show PB (V.alloc (.cells Tryz.zeroCells30 30)) V.heap.size (fun _ => 0) by rw [zeroPos]; exact PB.new rfl)
      have HHL := Lib.hid (show w.heap.size + 2 ≤ V.heap.size from HI.out.s)
      replace HI := Lib.hid (HI.out.go (below_new (.cells Tryz.zeroCells30 30)))
      generalize V.heap.size = H at HZB HHL ⊢
      generalize V.alloc (.cells Tryz.zeroCells30 30) = V at HZB HI ⊢
      refine hK.out _ _ (by first | exact HI.out | exact HI.out.go (Below.refl _ _).drew) (fun hHeld => ?_)
      clear hK K
      try simp only [aP, sA, sZ, sS]
      refine og (i := 10) rfl (by kernel_rfl) (fun K hK => ?_)
      rw [if_pos (by rfl)]
      refine wp_store_mid 30 _ _ rfl H 0 Y rfl rfl (by rw [HY.out, pc_size]; exact HZB.out.there) (by rw [infoPos, HY.out, pc_size]) (by rw [HY.out]; exact pc_one _) ?_
      rw [HYL.out]
      have HNB := Lib.hid (HZB.out.store (Q := q))
      replace HI := Lib.hid (HI.out.other HHL.out q)
      generalize V.setCells H 0 (pc q) = V at HNB HI ⊢
      refine hK.out _ _ (by first | exact HI.out | exact HI.out.go (Below.refl _ _).drew) (fun hHeld => ?_)
      clear hK K
      try simp only [aP, sA, sZ, sS]
      refine tq (i := 11) (d := some 7) rfl rfl ?_
      try simp only [aP, sA, sZ, sS]
      refine wpAnyH_done (by kernel_rfl) ?_ _
      refine NoPanic.normal ?_
      clear hHeld
      go_wp2_with fail
      go_meet
      exact ⟨H, rfl, rfl, HNB.out, HI.out⟩
    · skip
      go_simp
      have HZB := Lib.hid (show PB (V.alloc (.cells Tryz.zeroCells30 30)) V.heap.size (fun _ => 0) by rw [zeroPos]; exact PB.new rfl)
      have HHL := Lib.hid (show w.heap.size + 2 ≤ V.heap.size from HI.out.s)
      replace HI := Lib.hid (HI.out.go (below_new (.cells Tryz.zeroCells30 30)))
      generalize V.heap.size = H at HZB HHL ⊢
      generalize V.alloc (.cells Tryz.zeroCells30 30) = V at HZB HI ⊢
      refine hK.out _ _ (by first | exact HI.out | exact HI.out.go (Below.refl _ _).drew) (fun hHeld => ?_)
      clear hK K
      try simp only [aP, sA, sZ, sS]
      refine og (i := 5) rfl (by kernel_rfl) (fun K hK => ?_)
      go_simp
      refine (MV.out _ HI.out.j.gp HI.out.j.s).mono ?_
      rintro e V ⟨rfl, hb⟩
      replace HI := Lib.hid (HI.out.go hb)
      try replace HZB := Lib.hid (HZB.out.go hb)
      clear hb
      dsimp only
      refine hK.out _ _ (by first | exact HI.out | exact HI.out.go (Below.refl _ _).drew) (fun hHeld => ?_)
      clear hK K
      try simp only [aP, sA, sZ, sS]
      refine tq (i := 6) (d := some 18) rfl rfl ?_
      try simp only [aP, sA, sZ, sS]
      refine tq (i := 7) (d := some 25) rfl rfl ?_
      try simp only [aP, sA, sZ, sS]
      refine tq (i := 8) (d := some 26) rfl rfl ?_
      try simp only [aP, sA, sZ, sS]
      refine og (i := 10) rfl (by kernel_rfl) (fun K hK => ?_)
      rw [if_pos (by rfl)]
      refine wp_store_mid 30 _ _ rfl H 0 Y rfl rfl (by rw [HY.out, pc_size]; exact HZB.out.there) (by rw [infoPos, HY.out, pc_size]) (by rw [HY.out]; exact pc_one _) ?_
      rw [HYL.out]
      have HNB := Lib.hid (HZB.out.store (Q := q))
      replace HI := Lib.hid (HI.out.other HHL.out q)
      generalize V.setCells H 0 (pc q) = V at HNB HI ⊢
      refine hK.out _ _ (by first | exact HI.out | exact HI.out.go (Below.refl _ _).drew) (fun hHeld => ?_)
      clear hK K
      try simp only [aP, sA, sZ, sS]
      refine tq (i := 11) (d := some 7) rfl rfl ?_
      try simp only [aP, sA, sZ, sS]
      refine wpAnyH_done (by kernel_rfl) ?_ _
      refine NoPanic.normal ?_
      clear hHeld
      go_wp2_with fail
      go_meet
      exact ⟨H, rfl, rfl, HNB.out, HI.out⟩
  case rest =>
  obtain ⟨H, rfl, rfl, h1, h2⟩ := hcut
  have HQ := Lib.hid h1
  have HI := Lib.hid h2
  clear h1 h2 MV
  go_upto_region 4 with (fail)
  refine forget_B (fun W => JB B b P w W (s : Int) (n : Int) k ∧ PB W H q) ⟨HI.out, HQ.out⟩ ?_
  clear HI HQ
  rintro W4 ⟨h1, h2⟩
  have HI := Lib.hid h1
  have HQ := Lib.hid h2
  clear h1 h2
  obtain ⟨bq, hbq⟩ : ∃ b : Bool, (!(er == 0) || ch) = b := ⟨_, rfl⟩
  rw [hbq] at HOK
  go_cut [37] from 27 to 37 (fun v wx => v = .bool bq ∧ JB B b P w wx (s : Int) (n : Int) k ∧ PB wx H q)
  case first =>
    have c9 : ∀ dd os, Calls Tryz.prog 50 #[.agg Y, .int .i64 sd] (grow (redrawn W4 dd) os) fun e w'' => e = .returned (.bool ch) ∧ ∃ p : Regrown, w'' = grow (redrawn W4 p.d) p.os := fun dd os =>
      Calls.regrown_of (MK.out _ (HI.out.go (below_regrown W4 dd os)).j.gs (HI.out.go (below_regrown W4 dd os)).j.s)
    have e1 := cell_regrown (HI.out.j.p.cell 128 (by omega))
    rw [HSD.out] at e1
    have HCQ := Lib.hid HQ.out.regrown
    have HBQ := Lib.hid hbq
    clear hbq
    by_cases h0 : er = 0
    · subst h0
      refine wp_region_quiet_below (by kernel_rfl) (by kernel_rfl) ?_
      iterate 3 (go_big_quiet_step (fail))
      refine wpQuiet_pos (by rfl) _ (by rfl) H q Y HY.out (by rfl) HCQ.out ?_
      try simp only [aP, sA, sZ, sS]
      iterate 5 (go_big_quiet_step (fail))
      go_big_quiet_step (exact c9 _ _)
      repeat (go_big_quiet_step (fail))
      refine wpQuiet_nil ?_
      rintro W9 ⟨pq, rfl⟩
      replace HI := Lib.hid (HI.out.go (below_regrown W4 pq.d pq.os))
      replace HQ := Lib.hid (HQ.out.go (below_regrown W4 pq.d pq.os))
      generalize grow (redrawn W4 pq.d) pq.os = W9 at HI HQ ⊢
      try go_wp2_with fail
      go_meet
      exact ⟨by rw [← HBQ.out]; simp, HI.out, HQ.out⟩
    · have h0b : (er != 0) = true := by simp [h0]
      have h0c : (er == 0) = false := by simp [h0]
      clear h0
      refine wp_region_quiet_below (by kernel_rfl) (by kernel_rfl) ?_
      repeat (go_big_quiet_step (fail))
      refine wpQuiet_nil ?_
      rintro W9 ⟨pq, rfl⟩
      replace HI := Lib.hid (HI.out.go (below_regrown W4 pq.d pq.os))
      replace HQ := Lib.hid (HQ.out.go (below_regrown W4 pq.d pq.os))
      generalize grow (redrawn W4 pq.d) pq.os = W9 at HI HQ ⊢
      try go_wp2_with fail
      go_meet
      exact ⟨by rw [← HBQ.out, h0c]; rfl, HI.out, HQ.out⟩
  case rest =>
  obtain ⟨rfl, h1, h2⟩ := hcut
  replace HI := Lib.hid h1
  replace HQ := Lib.hid h2
  clear h1 h2 hbq MK
  cases bq
  case true =>
    have HOK2 := Lib.hid (show ok = false by rw [HOK.out]; rfl)
    have HN2 := Lib.hid (show nx = fun _ => 0 by rw [HNX.out, HOK2.out]; rfl)
    clear HOK HNX
    go_upto_region 5 with (fail)
    refine forget_B (fun W => JB B b P w W (s : Int) (n : Int) k) HI.out ?_
    clear HI HQ
    intro W2 hi
    have HI := Lib.hid hi
    clear hi
    go_upto_region 5 with (fail)
    refine wp_region_lit ?_
    refine wpList_plain rfl (fun K hK => ?_)
    go_simp
    refine hK _ _ ?_
    clear hK K
    refine wpList_store_mid rfl 70 _ _ rfl (w.heap.size + 1) 0 (pc fun _ => 0).toArray rfl (congrArg Value.agg zeroJudge) (by rw [pc_size]; exact HI.out.z.there) (by rw [infoJudge, pc_size]) (pc_one _) ?_
    rw [List.toList_toArray]
    obtain ⟨hr1, hb1⟩ := HI.out.stored (Q := fun _ => 0)
    have HR := Lib.hid hr1
    have HB := Lib.hid hb1
    clear hr1 hb1 HI
    generalize W2.setCells (w.heap.size + 1) 0 (pc fun _ => 0) = W8 at HR HB ⊢
    refine wpList_plain rfl (fun K hK => ?_)
    go_simp
    refine hK _ _ ?_
    clear hK K
    show Exit.then _ _ Exit.normal _ _
    refine ret_go (by assumption) ?_
    repeat (first | refine then_ret ?_ | refine block_ret ?_)
    refine bodyPost_ret (v := .tuple #[.agg (pc fun _ => 0).toArray, .bool false]) ?_ rfl ⟨by rw [HN2.out, HOK2.out], HB.out⟩
    exact results_mid2 (p := 4) (u := 5) (ty := 70) rfl _ W8 (w.heap.size + 1) _ _ _ rfl rfl HR.out Tryz.underlying70 rfl (by rw [infoJudge, pc_len])
  have HOK2 := Lib.hid (show ok = true by rw [HOK.out]; rfl)
  have HN2 := Lib.hid (show nx = q by rw [HNX.out, HOK2.out]; rfl)
  clear HOK HNX
  go_upto_region 6 with (fail)
  refine forget_B (fun W => JB B b P w W (s : Int) (n : Int) k ∧ PB W H q) ⟨HI.out, HQ.out⟩ ?_
  clear HI HQ
  rintro W2 ⟨h1, h2⟩
  have HI := Lib.hid h1
  have HQ := Lib.hid h2
  clear h1 h2
  go_upto_region 6 with (fail)
  refine wp_region_lit ?_
  refine wpList_pos (by rfl) _ (by rfl) H q Y HY.out (by rfl) HQ.out ?_
  have hfold := HFO.out
  have hYs : Y.size = 133 := by rw [HY.out, pc_size]
  refine wpList_plain rfl (fun K hK => ?_)
  go_simp
  refine hK _ _ ?_
  clear hK K hfold hYs
  refine wpList_store_mid rfl 70 _ _ rfl (w.heap.size + 1) 0 Y rfl rfl (by rw [HY.out, pc_size]; exact HI.out.z.there) (by rw [infoJudge, HY.out, pc_size]) (by rw [HY.out]; exact pc_one _) ?_
  refine forgetL_B (fun W => W.rangeAt (w.heap.size + 1) 0 (pc q) ∧ Below w.heap.size w W) (by rw [HYL.out]; exact HI.out.stored (Q := q)) ?_
  rintro W8 ⟨hr1, hb1⟩
  have HR := Lib.hid hr1
  have HB := Lib.hid hb1
  clear hr1 hb1 HI HQ
  refine wpList_plain rfl (fun K hK => ?_)
  go_simp
  refine hK _ _ ?_
  clear hK K
  show Exit.then _ _ Exit.normal _ _
  refine ret_go (by assumption) ?_
  repeat (first | refine then_ret ?_ | refine block_ret ?_)
  refine bodyPost_ret (v := .tuple #[.agg (pc q).toArray, .bool true]) ?_ rfl ⟨by rw [HN2.out, HOK2.out], HB.out⟩
  exact results_mid2 (p := 4) (u := 5) (ty := 70) rfl _ W8 (w.heap.size + 1) _ _ _ rfl rfl HR.out Tryz.underlying70 rfl (by rw [infoJudge, pc_len])
end Go.Proofs.YtcdnakbdajbfoaaGreatDoor

namespace Go.Proofs.YtcdnakbdajbfoaaGreatDoor
open Go.RowKit Go.Sort
set_option linter.unusedSimpArgs false
set_option linter.unusedVariables false
set_option maxRecDepth 20000
attribute [local go_sem] Oper.semAt_some

def okL (P : Nat → Int) (m : Int × Int × Int) : Bool := okM P m.1.toNat m.2.1.toNat m.2.2
def legU (P : Nat → Int) (m : Nat) : List (Int × Int × Int) := ((allM P).take m).filter (okL P)
def legM (P : Nat → Int) : List (Int × Int × Int) := (allM P).filter (okL P)
theorem legU_full (P : Nat → Int) : legU P (allM P).length = legM P := by unfold legU legM; rw [List.take_length]
theorem legU_pre (P : Nat → Int) (m : Nat) : legU P m <+: legM P := (List.take_prefix _ _).filter _
theorem legU_step (P : Nat → Int) (m : Nat) (h : m < (allM P).length) : ∃ (s t : Nat) (k : Int), s < 64 ∧ t < 64 ∧ mF (allM P) m = (s : Int) ∧ mT (allM P) m = (t : Int) ∧ mK (allM P) m = k ∧
    legU P (m + 1) = legU P m ++ (if okM P s t k then [((s : Int), (t : Int), k)] else []) ∧ (okM P s t k = true → legU P m ++ [((s : Int), (t : Int), k)] <+: legM P) := by
  obtain ⟨x, hx⟩ : ∃ x, (allM P)[m] = x := ⟨_, rfl⟩
  obtain ⟨s, t, hv⟩ := allM_mem P x (by rw [← hx]; exact List.getElem_mem h)
  have hxe : x = ((s : Int), (t : Int), x.2.2) := by rw [← hv.f, ← hv.t]
  have hg : (allM P).getD m (0, 0, 0) = x := by rw [List.getD_eq_getElem?_getD, List.getElem?_eq_getElem h, hx]; rfl
  have hu : legU P (m + 1) = legU P m ++ (if okM P s t x.2.2 then [((s : Int), (t : Int), x.2.2)] else []) := by
    unfold legU
    rw [List.take_succ_eq_append_getElem h, List.filter_append, hx]
    congr 1
    rw [List.filter_cons, List.filter_nil]
    unfold okL
    rw [hv.f, hv.t, Int.toNat_natCast, Int.toNat_natCast]
    split
    · rw [← hxe]
    · rfl
  refine ⟨s, t, x.2.2, hv.hs, hv.hn, by unfold mF; rw [hg, hv.f], by unfold mT; rw [hg, hv.t], by unfold mK; rw [hg], hu, fun ho => ?_⟩
  have := legU_pre P (m + 1)
  rw [hu, if_pos ho] at this
  exact this
def encL (P : Nat → Int) (m : Int × Int × Int) : Array Value := #[.agg #[.int .i64 m.1, .int .i64 m.2.1, .int .i64 m.2.2], .agg (pc (nxP P m.1.toNat m.2.1.toNat m.2.2)).toArray]
structure LJ (B b mb : Nat) (P : Nat → Int) (W : World) : Prop where
  m : W.heap[mb]? = some (.cells #[.pointer (some ⟨b, 0, none⟩)] 79 (0, 0))
  p : PB W b P
  gb : GB B W
  gs : GS B W
  gm : GM B W
  gp : GP B W
  k : B ≤ W.heap.size
def LN (B b mb : Nat) (q : Nat) : Prop := q = b ∨ q = mb ∨ q < B
theorem LJ.lt {B b mb : Nat} {P : Nat → Int} {A : World} (h : LJ B b mb P A) : ∀ k, LN B b mb k → k < A.heap.size := by
  rintro q (rfl | rfl | hq)
  · exact h.p.lt
  · exact al_lt h.m
  · exact Nat.lt_of_lt_of_le hq h.k
theorem LJ.go {B b mb : Nat} {P : Nat → Int} {A C : World} (h : LJ B b mb P A) (g : Below A.heap.size A C) : LJ B b mb P C :=
  ⟨sl_go h.m g, h.p.go g, h.gb.below (g.mono h.k), h.gs.below (g.mono h.k), h.gm.below (g.mono h.k), h.gp.below (g.mono h.k), Nat.le_trans h.k g.size⟩
theorem LJ.reads (B b mb : Nat) (P : Nat → Int) : ∀ Y A C, LJ B b mb P A → (∀ q, Y q → ¬ LN B b mb q) → Turns Y A C → LJ B b mb P C := fun Y A C h hx ht => by
  have hb : Below B A C := ⟨ht.os, ht.tape, ht.output, ht.size, fun k hk => ht.block k (Nat.lt_of_lt_of_le hk h.k) (fun e => hx k e (.inr (.inr hk)))⟩
  exact ⟨(ht.block mb (al_lt h.m) (fun e => hx mb e (.inr (.inl rfl)))).trans h.m, h.p.same ht.size (ht.block b h.p.lt (fun e => hx b e (.inl rfl))), h.gb.below hb, h.gs.below hb, h.gm.below hb, h.gp.below hb, Nat.le_trans h.k ht.size⟩
theorem LJ.q {B b mb : Nat} {P : Nat → Int} {A : World} (h : LJ B b mb P A) : JQ B b P A A := JQ.begin h.p h.gb h.gs h.gm h.gp h.k
theorem reads3_row {W : World} {g : Nat} {cur : Array Value} {l : List (Int × Int × Int)} (hg : W.heap[g]? = some (.cells cur 52 (0, 0))) (ht : cur.toList.take (l.length * 3) = mvals l) :
    Reads3 W.heap.size W (some ⟨g, 0, none⟩) l.length (mF l) (mT l) (mK l) := by
  refine .inr ⟨g, 0, rfl, (Array.getElem?_eq_some_iff.1 hg).1, fun i hi => ?_⟩
  have key : ∀ j u, j < l.length * 3 → (mvals l)[j]? = some u → W.cell? ⟨g, 0 + j, none⟩ = some u := by
    intro j u hj hu
    rw [cell_of_row W g (0 + j) cur _ (0, 0) hg, Nat.zero_add]
    rw [← ht, List.getElem?_take_of_lt hj] at hu
    simpa using hu
  obtain ⟨h1, h2, h3⟩ := mvals_get l i hi
  exact ⟨key _ _ (by omega) h1, by rw [Nat.add_assoc]; exact key _ _ (by omega) h2, by rw [Nat.add_assoc]; exact key _ _ (by omega) h3⟩
theorem wpList_newJ {ops : Array Oper} {rest : List Oper} {d : Tmp} {y : Operand} {t1 t2 : TypeId} {p1 p2 : String} {e1 e2 : Array Edge} {a : Act} {w : World} {Q : Exit → Act → World → Prop}
    (E : Array Value) (P : Nat → Int) (hE : E = (pc P).toArray) (hx : (a.put (some d) (.pointer (some ⟨w.heap.size, 0, none⟩))).eval (.tmp d) = .pointer (some ⟨w.heap.size, 0, none⟩)) (hy : (a.put (some d) (.pointer (some ⟨w.heap.size, 0, none⟩))).eval y = .agg E)
    (k : ∀ W, PB W w.heap.size P → Below w.heap.size w W → W.heap.size = w.heap.size + 1 → wpList Tryz.prog ops Q rest (a.put (some d) (.pointer (some ⟨w.heap.size, 0, none⟩))) W) :
    wpList Tryz.prog ops Q ({ dst := some d, op := .alloc 70, type := t1, pos := p1, after := e1, guard := none } :: { dst := none, op := .store 70 (.tmp d) y, type := t2, pos := p2, after := e2, guard := none } :: rest) a w := by
  subst hE
  refine wpList_plain rfl (fun K hK => ?_)
  go_simp
  refine hK _ _ ?_
  clear hK K
  have hpn : PB (w.alloc (.cells Tryz.zeroCells70 70)) w.heap.size (fun _ => 0) := by rw [zeroJudge]; exact PB.new rfl
  refine wpList_store_mid rfl 70 _ _ rfl w.heap.size 0 (pc P).toArray hx hy (by rw [pc_size]; exact hpn.there) (by rw [infoJudge, pc_size]) (pc_one P) ?_
  rw [List.toList_toArray]
  exact k _ (hpn.store (Q := P)) (below_store (b := w.heap.size) P (below_new _) (Nat.le_refl _) (by simp)) (by rw [sizes_B]; simp)
theorem wpIn_jud {F : Fence} {n : Nat} {op : Oper} {a : Act} {w : World} {K : Act → World → Prop} {Q : Exit → Act → World → Prop} (x : Operand) (ho : op.op = .load 70 x)
    (b : Nat) (P : Nat → Int) (X : Array Value) (hX : X = (pc P).toArray) (hx : a.eval x = .pointer (some ⟨b, 0, none⟩)) (hc : PB w b P) (h : K (a.put op.dst (.agg X)) w) : op.wpIn F n Tryz.prog a w K Q := by
  subst hX
  refine ⟨fun f hf => ?_, ?_⟩
  · simp [Oper.about, ho] at hf
  · rw [Oper.semAt_eq _ _ _ (by simp [ho])]
    unfold execOp
    simp only [ho, hx, Instr.loadAt, Instr.sureAddr, Sem.run_bind, Sem.run_pure, Result.andThen_ok, run_loadVar_mid w b 0 _ (pc P) _ hc.range Tryz.underlying70 rfl (by rw [infoJudge, pc_len])]
    exact h
theorem listIn_go {F : Fence} {n : Nat} {P : Program} {ops : Array Oper} {Q : Exit → Act → World → Prop} {rest : List Oper} {K : Act → World → Prop} {a : Act} {w : World} (h : ∀ a w, wpListIn F n P ops Q rest a w → K a w) (hq : wpListIn F n P ops Q rest a w) : K a w := h _ _ hq
theorem allM_len (P : Nat → Int) : (allM P).length ≤ 17920 := by
  have h1 := flatM_len P (upList (ownB P) 64)
  have h2 := upList_len (ownB P) 64
  unfold allM
  omega
set_option maxHeartbeats 4000000 in
set_option maxRecDepth 100000 in
theorem legal1_comes (B b mb : Nat) (P : Nat → Int) (w : World) (har : LJ B b mb P w) :
    Comes2 Tryz.prog 52 #[.pointer (some ⟨mb, 0, none⟩)] (LN B b mb) (encL P) (legM P) w := by
  refine ⟨har.lt, fun l J Jx X W hW hXN hJ hJx hlt hY h0 => ?_⟩
  have HA := Lib.hid (har.go hW)
  have HJ := Lib.hid hJ
  have HJX := Lib.hid hJx
  have HLT := Lib.hid hlt
  have HY := Lib.hid hY
  have HR := Lib.hid (LJ.reads B b mb P)
  have HK := Lib.hid (show Keep J (LJ B b mb P) (LN B b mb) [] [] X W from ⟨h0, HA.out, fun p hp => (by cases hp), fun q hq => ⟨hXN q hq, fun p hp => (by cases hp)⟩⟩)
  have HS := Lib.hid (legU_step P)
  have HFU := Lib.hid (legU_full P)
  have HZE := Lib.hid (show legU P 0 = [] from rfl)
  obtain ⟨Z, hZ⟩ : ∃ Z, Z = (pc P).toArray := ⟨_, rfl⟩
  have HAL := Lib.hid (fun W h1 h2 h3 => all_any P W B h1 h2 h3)
  rw [← hZ] at HAL
  have HZ := Lib.hid hZ
  have MB := Lib.hid (fun (s t : Nat) (k : Int) hs ht W h => behind_any B b P s t k hs ht W h)
  clear har hW hXN hJ hJx hlt hY h0 HA hZ
  go_enter Tryz.func52, Tryz.ntmps52
  obtain ⟨c0, cf, _⟩ := row1 HK.out.r.m
  go_wp2_with (refine wpList_pos (by rfl) _ (by rfl) b P Z HZ.out (by rfl) HK.out.r.p ?_)
  clear c0 cf
  refine (HAL.out _ HK.out.r.gs HK.out.r.gm HK.out.r.k).mono ?_
  rintro e w1 ⟨v, rfl, hb, hrow⟩
  obtain ⟨n, hn⟩ : ∃ n, (allM P).length = n := ⟨_, rfl⟩
  obtain ⟨O, p, c, rfl, hrd, hko⟩ : ∃ (O : List (Nat × Obj)) (p : Option Addr) (c : Nat), v = .slice p n c ∧ (∀ pre Y W, Keep J (LJ B b mb P) (LN B b mb) O pre Y W → Reads3 W.heap.size W p n (mF (allM P)) (mT (allM P)) (mK (allM P))) ∧ Keep J (LJ B b mb P) (LN B b mb) O [] X w1 := by
    have hk1 := HK.out.go HR.out HJ.out hb
    rw [← hn]
    rcases hrow.2 with ⟨rfl, h0⟩ | ⟨g, cap, cur, rfl, hbb, hg, hnc, hcm, hcs, ht⟩
    · exact ⟨[], none, 0, by rw [h0], fun _ _ _ _ => .inl h0, hk1⟩
    · refine ⟨[(g, .cells cur 52 (0, 0))], _, _, rfl, fun pre Y W h => reads3_row h.head ht, hk1.put hg fun e => ?_⟩
      have := HLT.out _ _ _ HK.out.j g e
      omega
  have HRD := Lib.hid hrd
  replace HK := Lib.hid hko
  have HN := Lib.hid hn
  clear hb hrow hrd hko hn HAL HZ
  rw [HN.out] at HFU
  have hnb : n ≤ 17920 := by rw [← HN.out]; exact allM_len P
  dsimp only
  refine list_go (by assumption) ?_
  go_wp2
  go_loopw [13] (fun i wr => ∃ (m : Nat) (Y : Nat → Prop), m ≤ n ∧ i = .int .i64 (m : Int) ∧ Keep J (LJ B b mb P) (LN B b mb) O (legU P m) Y wr) (fun i _ => n - (intOf i).toNat)
  case atStart => exact ⟨0, _, Nat.zero_le _, rfl, by rw [HZE.out]; exact HK.out⟩
  case round =>
    clear HK
    obtain ⟨m, Y, hm, rfl, hk⟩ := hrel
    have HK := Lib.hid hk
    clear hk
    by_cases hlt : m < n
    · obtain ⟨s, t, k, hs, ht, q1, q2, q3, hstep, hpre⟩ := HS.out m (by rw [HN.out]; exact hlt)
      have hrd := HRD.out _ _ _ HK.out
      obtain ⟨pb, po, rfl⟩ := hrd.addr hlt
      obtain ⟨e0, e1, e2⟩ := hrd.cells hlt
      rw [q1] at e0
      rw [q2] at e1
      rw [q3] at e2
      clear q1 q2 q3 hrd
      have MB1 := Lib.hid (fun W h => MB.out s t k hs ht W h)
      obtain ⟨ok, hok⟩ : ∃ x, okM P s t k = x := ⟨_, rfl⟩
      obtain ⟨N, hNx⟩ : ∃ x, nxP P s t k = x := ⟨_, rfl⟩
      obtain ⟨V, hV⟩ : ∃ V, V = (pc N).toArray := ⟨_, rfl⟩
      rw [hok] at hstep hpre MB1
      rw [hNx, ← hV] at MB1
      have HEN := Lib.hid (show encL P ((s : Int), (t : Int), k) = #[.agg #[.int .i64 (s : Int), .int .i64 (t : Int), .int .i64 k], .agg V] by unfold encL; simp only [Int.toNat_natCast]; rw [hNx, ← hV])
      have HSS := Lib.hid hstep
      have HPF := Lib.hid hpre
      have HV := Lib.hid hV
      clear hs ht hok hNx hV hstep hpre
      have i0 : (0 : Int) ≤ (m : Int) := by omega
      go_upto_region 3 with (fail)
      clear e0 e1 e2
      refine forget_B (fun W => Keep J (LJ B b mb P) (LN B b mb) O (legU P m) Y W ∧ W.heap[wr.heap.size]? = some (.cells #[.int .i64 (s : Int), .int .i64 (t : Int), .int .i64 k] 52 (0, 0))) ⟨HK.out.go HR.out HJ.out (below_new _), sl_at rfl⟩ ?_
      clear HK
      rintro W1 ⟨h1, h2⟩
      have HK := Lib.hid h1
      have HMM := Lib.hid h2
      obtain ⟨q0, q1, q2, qf, qz⟩ := row3 h2
      obtain ⟨c0, cf, _⟩ := row1 h1.r.m
      clear h1 h2
      go_wp2_with fail
      refine (MB1.out _ HK.out.r.q).mono ?_
      rintro e w1 ⟨rfl, hb⟩
      replace HK := Lib.hid (HK.out.go HR.out HJ.out hb)
      replace HMM := Lib.hid (sl_go HMM.out hb)
      clear q0 q1 q2 qf qz c0 cf hb MB1
      dsimp only
      refine list_go (by assumption) ?_
      iterate 3
        refine wpList_plain rfl (fun K hK => ?_)
        go_simp
        refine hK _ _ ?_
        clear hK K
      refine wpList_newJ V N HV.out (by rfl) (by rfl) (fun W2 hp hb hsz => ?_)
      replace HK := Lib.hid (HK.out.go HR.out HJ.out hb)
      replace HMM := Lib.hid (sl_go HMM.out hb)
      have HPN := Lib.hid hp
      clear hp hb hsz
      generalize w1.heap.size = H at *
      generalize wr.heap.size = H0 at *
      go_upto_region 4 with (fail)
      obtain ⟨q0, q1, q2, qf, qz⟩ := row3 HMM.out
      refine (wpIn_wide (n := 0)).1 ?_
      cases ok
      · gi_wp2
        refine ⟨fun _ _ => trivial, ?_⟩
        gi_wp2
        go_wp2
        go_roundw
        case rel => exact ⟨m + 1, Y, by omega, by go_num, by rw [HSS.out]; simpa using HK.out⟩
        case measure => simp [intOf]; omega
      · obtain ⟨fn, tmps, assign, body, hy, hR8⟩ := (show YieldAt Fence.wide 0 Tryz.prog l #[.agg #[.int .i64 (s : Int), .int .i64 (t : Int), .int .i64 k], .agg V] W2 _ from HEN.out ▸ HY.out _ ((s : Int), (t : Int), k) Y W2 HK.out.j (HPF.out rfl))
        gi_wp2
        refine wpIn_jud _ (by rfl) H N V HV.out (by rfl) HPN.out ?_
        refine listIn_go (by assumption) ?_
        gi_wp2
        refine ⟨rfl, (roundIn_wide hR8).mono ?_⟩
        clear hR8 hy
        rintro e B8 ⟨Z2, hT, hZ2, (⟨rfl, hJB⟩ | ⟨rfl, hJB⟩)⟩
        · have HK6 := Lib.hid (HK.out.turn HR.out HK.out.r.lt hT hZ2 hJB)
          clear hT hZ2 hJB HK q0 q1 q2 qf qz
          gi_wp2
          go_wp2
          go_roundw
          case rel => exact ⟨m + 1, Z2, by omega, by go_num, by rw [HSS.out]; exact HK6.out⟩
          case measure => simp [intOf]; omega
        · gi_wp2
          go_wp2
          refine bodyPost_ret (results_none rfl _ _ _) rfl ?_
          exact ⟨⟨_, rfl⟩, Z2, .inr ⟨_, HPF.out (by trivial), hJB⟩⟩
    · obtain rfl : m = n := by omega
      go_wp2
      go_end0
      exact ⟨⟨_, rfl⟩, Y, .inl (by rw [← HFU.out]; exact HK.out.j)⟩
end Go.Proofs.YtcdnakbdajbfoaaGreatDoor
