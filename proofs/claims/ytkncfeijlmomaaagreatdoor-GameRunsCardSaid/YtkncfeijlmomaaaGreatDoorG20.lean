/-
  Merged: Rc, Ra, Rd, Re, Rg, Rf.
-/
import Derived.Test.YtkncfeijlmomaaaGreatDoorG19
import Derived.Test.YtkncfeijlmomaaaGreatDoorG4

namespace Go.Proofs.YtkncfeijlmomaaaGreatDoor
open Go.RowKit Go.Sort
set_option linter.unusedSimpArgs false
set_option linter.unusedVariables false
set_option maxRecDepth 20000

/-- a move, one as pieces go, is legal; what is behind it -/
def badC (P : Nat → Int) (s n : Nat) : Bool := cstM P s n && !freeB P s n
def badQ (P : Nat → Int) (s n : Nat) (k : Int) : Bool := !(fltN (handP P) s n k == 0) || chkB (mvP P s n k) (P 128)
def okM (P : Nat → Int) (s n : Nat) (k : Int) : Bool := !badC P s n && !badQ P s n k
def nxP (P : Nat → Int) (s n : Nat) (k : Int) : Nat → Int := if okM P s n k then mvP P s n k else fun _ => 0
theorem infoJudge : (Tryz.prog.info? 90).map (·.size) = some 133 := by kernel_rfl
theorem zeroJudge : Tryz.zeroCells90 = (pc fun _ => 0).toArray := by kernel_rfl
theorem fold_jud (X : Array Value) (hX : X.size = 133) : Array.foldl (fun (cs : Array Value) (x : Value × Nat) => cs.setIfInBounds x.2 x.1) Tryz.zeroCells90 X.zipIdx 0 133 = X := by
  apply Array.ext_getElem?
  intro i
  have hz : Tryz.zeroCells90.size = 133 := by rw [zeroJudge, pc_size]
  rw [show (133 : Nat) = X.zipIdx.size by simp [hX], ← Array.foldl_toList]
  rw [Array.toList_zipIdx, fold_setF X.toList 0 _ (by simp [hX, hz]) i]
  by_cases h : i < 133
  · rw [if_pos (by simp [hX, h]), Nat.sub_zero, Array.getElem?_toList]
  · rw [if_neg (by simp [hX]; omega), Array.getElem?_eq_none (by omega), Array.getElem?_eq_none (by omega)]
/-- what stands in behind: the move, the answer's place -/
structure JB (B b : Nat) (P : Nat → Int) (w W : World) (f t k : Int) : Prop where
  j : JQ B b P w W
  m : W.heap[w.heap.size]? = some (.cells #[.int .i64 f, .int .i64 t, .int .i64 k] 46 (0, 0))
  z : PB W (w.heap.size + 1) (fun _ => 0)
  s : w.heap.size + 2 ≤ W.heap.size
  l : b < w.heap.size
theorem JB.go {B b : Nat} {P : Nat → Int} {w W W' : World} {f t k : Int} (h : JB B b P w W f t k) (g : Below W.heap.size W W') : JB B b P w W' f t k :=
  ⟨h.j.go g, sl_go h.m g, h.z.go g, Nat.le_trans h.s g.size, h.l⟩
theorem JB.begin {B b : Nat} {P : Nat → Int} {w : World} {f t k : Int} (h : JQ B b P w w) :
    JB B b P w ((w.alloc (.cells #[.int .i64 f, .int .i64 t, .int .i64 k] 46)).alloc (.cells Tryz.zeroCells90 90)) f t k := by
  have hb : Below w.heap.size w ((w.alloc (.cells #[.int .i64 f, .int .i64 t, .int .i64 k] 46)).alloc (.cells Tryz.zeroCells90 90)) := (below_new _).alloc (by simp) _
  refine ⟨h.go hb, al_old (sl_at rfl) _, ?_, by simp, h.p.lt⟩
  have hz : PB ((w.alloc (.cells #[.int .i64 f, .int .i64 t, .int .i64 k] 46)).alloc (.cells Tryz.zeroCells90 90)) (w.alloc (.cells #[.int .i64 f, .int .i64 t, .int .i64 k] 46)).heap.size (fun _ => 0) := by rw [zeroJudge]; exact PB.new rfl
  simpa using hz
theorem JB.other {B b : Nat} {P : Nat → Int} {w W : World} {f t k : Int} {H : Nat} (h : JB B b P w W f t k) (hH : w.heap.size + 2 ≤ H) (Q : Nat → Int) : JB B b P w (W.setCells H 0 (pc Q)) f t k := by
  have hb : Below (w.heap.size + 2) W (W.setCells H 0 (pc Q)) := below_store (b := H) Q (Below.refl _ _) hH h.s
  have hk := h.j.k
  have hl := h.l
  exact ⟨⟨h.j.p.below hb (by omega), h.j.gb.below (hb.mono (by omega)), h.j.gs.below (hb.mono (by omega)), h.j.gm.below (hb.mono (by omega)), h.j.gp.below (hb.mono (by omega)), h.j.bel.trans (hb.mono (by omega)), h.j.k⟩, (hb.block _ (by omega)).trans h.m, h.z.below hb (by omega), Nat.le_trans h.s hb.size, h.l⟩
theorem JB.stored {B b : Nat} {P Q : Nat → Int} {w W : World} {f t k : Int} (h : JB B b P w W f t k) : (W.setCells (w.heap.size + 1) 0 (pc Q)).rangeAt (w.heap.size + 1) 0 (pc Q) ∧ Below w.heap.size w (W.setCells (w.heap.size + 1) 0 (pc Q)) :=
  ⟨(h.z.store (Q := Q)).range, below_store (b := w.heap.size + 1) Q h.j.bel (by omega) h.j.bel.size⟩
set_option maxHeartbeats 8000000 in
set_option maxRecDepth 100000 in
theorem behind_any (B b : Nat) (P : Nat → Int) (s n : Nat) (k : Int) (hs : s < 64) (hn : n < 64) (w : World) (h : JQ B b P w w) :
    Calls Tryz.prog 103 #[.pointer (some ⟨b, 0, none⟩), .agg #[.int .i64 (s : Int), .int .i64 (n : Int), .int .i64 k]] w fun e w' => e = .returned (.tuple #[.agg (pc (nxP P s n k)).toArray, .bool (okM P s n k)]) ∧ Below w.heap.size w w' := by
  obtain ⟨X, hX⟩ : ∃ X, X = (pc P).toArray := ⟨_, rfl⟩
  have HI := Lib.hid (JB.begin (f := (s : Int)) (t := (n : Int)) (k := k) h)
  have MC1 := Lib.hid (fun W h => jCst_any b P s n k hs hn W h)
  have MF1 := Lib.hid (fun W h => jFree_any B b P s n k hs hn W h)
  have MV := Lib.hid (fun W h1 h2 => move_any P (s : Int) (n : Int) k W B h1 h2)
  obtain ⟨q, hq⟩ : ∃ q, mvP P (s : Int) (n : Int) k = q := ⟨_, rfl⟩
  obtain ⟨er, her⟩ : ∃ x, fltN (handP P) (s : Int) (n : Int) k = x := ⟨_, rfl⟩
  obtain ⟨sd, hsd⟩ : ∃ x, P 128 = x := ⟨_, rfl⟩
  obtain ⟨ch, hch⟩ : ∃ x, chkB q sd = x := ⟨_, rfl⟩
  obtain ⟨bc, hbc⟩ : ∃ x, badC P s n = x := ⟨_, rfl⟩
  obtain ⟨cv, hcv⟩ : ∃ x, cstM P s n = x := ⟨_, rfl⟩
  obtain ⟨fv, hfv⟩ : ∃ x, freeB P s n = x := ⟨_, rfl⟩
  obtain ⟨Y, hY⟩ : ∃ Y, Y = (pc q).toArray := ⟨_, rfl⟩
  rw [hcv] at MC1
  rw [hfv] at MF1
  rw [hq, her, ← hX, ← hY] at MV
  have hbc2 : (cv && !fv) = bc := by rw [← hbc]; unfold badC; rw [hcv, hfv]
  have HOK := Lib.hid (show okM P s n k = (!bc && !(!(er == 0) || ch)) by unfold okM badQ; rw [hbc, her, hq, hsd, hch])
  have HNX := Lib.hid (show nxP P s n k = if okM P s n k then q else fun _ => 0 by unfold nxP; rw [hq])
  have MK := Lib.hid (fun W h1 h2 => chk_any q sd W B h1 h2)
  rw [hch, ← hY] at MK
  have HX := Lib.hid hX
  have HY := Lib.hid hY
  have HYL := Lib.hid (show Y.toList = pc q by rw [hY])
  have HSD := Lib.hid hsd
  have hfold := fold_jud Y (by rw [hY, pc_size])
  have HFO := Lib.hid hfold
  generalize okM P s n k = ok at *
  generalize nxP P s n k = nx at *
  clear hX h hq her hch hbc hcv hfv hY hsd hn hs hfold
  go_enter Tryz.func103, Tryz.ntmps103
  go_upto_region 1 with (fail)
  refine forget_B (fun W => JB B b P w W (s : Int) (n : Int) k) HI.out ?_
  clear HI
  intro W hi
  have HI := Lib.hid hi
  clear hi
  go_cut [16] from 8 to 16 (fun v wx => v = .bool bc ∧ JB B b P w wx (s : Int) (n : Int) k)
  case first =>
    obtain ⟨m0, m1, m2, mf, mz⟩ := row3 HI.out.m
    go_wp2_with fail
    refine (MC1.out _ HI.out.j.p).mono ?_
    rintro e w1 ⟨rfl, hb⟩
    replace HI := Lib.hid (HI.out.go hb)
    clear hb m0 m1 m2 mf mz
    have HBC := Lib.hid hbc2
    clear hbc2
    obtain ⟨m0, m1, m2, mf, mz⟩ := row3 HI.out.m
    cases cv
    · go_wp2_with fail
      go_meet
      exact ⟨by rw [← HBC.out]; rfl, HI.out⟩
    · go_wp2_with fail
      refine (MF1.out _ HI.out.j.anew).mono ?_
      rintro e w2 ⟨rfl, hb⟩
      replace HI := Lib.hid (HI.out.go hb)
      clear hb m0 m1 m2 mf mz
      go_wp2_with fail
      go_meet
      exact ⟨by rw [← HBC.out]; simp, HI.out⟩
  case rest =>
  obtain ⟨rfl, h1⟩ := hcut
  replace HI := Lib.hid h1
  clear h1 hbc2 MC1 MF1
  cases bc
  case true =>
    have HOK2 := Lib.hid (show ok = false by rw [HOK.out]; rfl)
    have HN2 := Lib.hid (show nx = fun _ => 0 by rw [HNX.out, HOK2.out]; rfl)
    clear HOK HNX MV MK
    go_upto_region 2 with (fail)
    refine forget_B (fun W => JB B b P w W (s : Int) (n : Int) k) HI.out ?_
    clear HI
    intro W2 hi
    have HI := Lib.hid hi
    clear hi
    go_upto_region 2 with (fail)
    refine wp_region_lit ?_
    refine wpList_plain rfl (fun K hK => ?_)
    go_simp
    refine hK _ _ ?_
    clear hK K
    refine wpList_store_mid rfl 90 _ _ rfl (w.heap.size + 1) 0 (pc fun _ => 0).toArray rfl (congrArg Value.agg zeroJudge) (by rw [pc_size]; exact HI.out.z.there) (by rw [infoJudge, pc_size]) (pc_one _) ?_
    rw [List.toList_toArray]
    obtain ⟨hr1, hb1⟩ := HI.out.stored (Q := fun _ => 0)
    have HR := Lib.hid hr1
    have HB := Lib.hid hb1
    clear hr1 hb1 HI
    generalize W2.setCells (w.heap.size + 1) 0 (pc fun _ => 0) = W8 at HR HB ⊢
    refine wpList_plain rfl (fun K hK => ?_)
    go_simp
    refine hK _ _ ?_
    clear hK K
    show Exit.then _ _ Exit.normal _ _
    refine ret_go (by assumption) ?_
    repeat (first | refine then_ret ?_ | refine block_ret ?_)
    refine bodyPost_ret (v := .tuple #[.agg (pc fun _ => 0).toArray, .bool false]) ?_ rfl ⟨by rw [HN2.out, HOK2.out], HB.out⟩
    exact results_mid2 (p := 4) (u := 5) (ty := 90) rfl _ W8 (w.heap.size + 1) _ _ _ rfl rfl HR.out Tryz.underlying90 rfl (by rw [infoJudge, pc_len])
  go_upto_region 3 with (fail)
  refine forget_B (fun W => JB B b P w W (s : Int) (n : Int) k) HI.out ?_
  clear HI
  intro W3 hi
  have HI := Lib.hid hi
  clear hi
  go_cut [6, 7] from 18 to 26 (fun v6 v7 wx => ∃ H, v6 = .pointer (some ⟨H, 0, none⟩) ∧ v7 = .int .i64 er ∧ PB wx H q ∧ JB B b P w wx (s : Int) (n : Int) k)
  case first =>
    refine wp_region_noPanic ?_
    refine wp_region_start (n := 12) (l := #[false, false, false, false, false, false, false, false, false, false, false, false]) (S := (fun W => JB B b P w W (s : Int) (n : Int) k)) (by kernel_rfl) rfl (by kernel_rfl) (by first | exact HI.out | exact HI.out.go (Below.refl _ _).drew) (fun hHeld => ?_)
    replace HI := Lib.hid (HI.out.go (Below.refl W3.heap.size W3).drew)
    generalize W3.drew = V at hHeld HI ⊢
    refine tq (i := 0) (d := some 19) rfl rfl ?_
    try simp only [aP, sA, sZ, sS]
    refine tq (i := 1) (d := some 20) rfl rfl ?_
    try simp only [aP, sA, sZ, sS]
    refine tq (i := 2) (d := some 21) rfl rfl ?_
    try simp only [aP, sA, sZ, sS]
    refine tg (i := 3) (d := some 22) (v := (.agg X)) rfl rfl ?_ ?_
    · exact yields_posC (by rfl) _ (by rfl) b P X HX.out (by rfl) (fun W h => h.j.p)
    try simp only [aP, sA, sZ, sS]
    refine tg (i := 4) (d := some 23) (v := (.agg #[.int .i64 (s : Int), .int .i64 (n : Int), .int .i64 k])) rfl rfl ?_ ?_
    · refine Or.inl ⟨by rfl, ?_⟩; intro w' hSw; (try dsimp only at hSw); obtain ⟨m0, m1, m2, mf, mz⟩ := row3 hSw.m; go_simp
    try simp only [aP, sA, sZ, sS]
    refine wg (i := 5) (j := 9) rfl rfl (by kernel_rfl) (fun K hK => ?_) (fun K hK => ?_)
    · skip
      go_simp
      refine (MV.out _ HI.out.j.gp HI.out.j.s).mono ?_
      rintro e V ⟨rfl, hb⟩
      replace HI := Lib.hid (HI.out.go hb)
      try replace HZB := Lib.hid (HZB.out.go hb)
      clear hb
      dsimp only
      refine hK.out _ _ (by first | exact HI.out | exact HI.out.go (Below.refl _ _).drew) (fun hHeld => ?_)
      clear hK K
      try simp only [aP, sA, sZ, sS]
      refine tq (i := 6) (d := some 18) rfl rfl ?_
      try simp only [aP, sA, sZ, sS]
      refine tq (i := 7) (d := some 25) rfl rfl ?_
      try simp only [aP, sA, sZ, sS]
      refine tq (i := 8) (d := some 26) rfl rfl ?_
      try simp only [aP, sA, sZ, sS]
      refine og (i := 9) rfl (by kernel_rfl) (fun K hK => ?_)
      go_simp
      have HZB := Lib.hid (show PB (V.alloc (.cells Tryz.zeroCells29 29)) V.heap.size (fun _ => 0) by rw [zeroPos]; exact PB.new rfl)
      have HHL := Lib.hid (show w.heap.size + 2 ≤ V.heap.size from HI.out.s)
      replace HI := Lib.hid (HI.out.go (below_new (.cells Tryz.zeroCells29 29)))
      generalize V.heap.size = H at HZB HHL ⊢
      generalize V.alloc (.cells Tryz.zeroCells29 29) = V at HZB HI ⊢
      refine hK.out _ _ (by first | exact HI.out | exact HI.out.go (Below.refl _ _).drew) (fun hHeld => ?_)
      clear hK K
      try simp only [aP, sA, sZ, sS]
      refine og (i := 10) rfl (by kernel_rfl) (fun K hK => ?_)
      rw [if_pos (by rfl)]
      refine wp_store_mid 29 _ _ rfl H 0 Y rfl rfl (by rw [HY.out, pc_size]; exact HZB.out.there) (by rw [infoPos, HY.out, pc_size]) (by rw [HY.out]; exact pc_one _) ?_
      rw [HYL.out]
      have HNB := Lib.hid (HZB.out.store (Q := q))
      replace HI := Lib.hid (HI.out.other HHL.out q)
      generalize V.setCells H 0 (pc q) = V at HNB HI ⊢
      refine hK.out _ _ (by first | exact HI.out | exact HI.out.go (Below.refl _ _).drew) (fun hHeld => ?_)
      clear hK K
      try simp only [aP, sA, sZ, sS]
      refine tq (i := 11) (d := some 7) rfl rfl ?_
      try simp only [aP, sA, sZ, sS]
      refine wpAnyH_done (by kernel_rfl) ?_ _
      refine NoPanic.normal ?_
      clear hHeld
      go_wp2_with fail
      go_meet
      exact ⟨H, rfl, rfl, HNB.out, HI.out⟩
    · skip
      go_simp
      have HZB := Lib.hid (show PB (V.alloc (.cells Tryz.zeroCells29 29)) V.heap.size (fun _ => 0) by rw [zeroPos]; exact PB.new rfl)
      have HHL := Lib.hid (show w.heap.size + 2 ≤ V.heap.size from HI.out.s)
      replace HI := Lib.hid (HI.out.go (below_new (.cells Tryz.zeroCells29 29)))
      generalize V.heap.size = H at HZB HHL ⊢
      generalize V.alloc (.cells Tryz.zeroCells29 29) = V at HZB HI ⊢
      refine hK.out _ _ (by first | exact HI.out | exact HI.out.go (Below.refl _ _).drew) (fun hHeld => ?_)
      clear hK K
      try simp only [aP, sA, sZ, sS]
      refine og (i := 5) rfl (by kernel_rfl) (fun K hK => ?_)
      go_simp
      refine (MV.out _ HI.out.j.gp HI.out.j.s).mono ?_
      rintro e V ⟨rfl, hb⟩
      replace HI := Lib.hid (HI.out.go hb)
      try replace HZB := Lib.hid (HZB.out.go hb)
      clear hb
      dsimp only
      refine hK.out _ _ (by first | exact HI.out | exact HI.out.go (Below.refl _ _).drew) (fun hHeld => ?_)
      clear hK K
      try simp only [aP, sA, sZ, sS]
      refine tq (i := 6) (d := some 18) rfl rfl ?_
      try simp only [aP, sA, sZ, sS]
      refine tq (i := 7) (d := some 25) rfl rfl ?_
      try simp only [aP, sA, sZ, sS]
      refine tq (i := 8) (d := some 26) rfl rfl ?_
      try simp only [aP, sA, sZ, sS]
      refine og (i := 10) rfl (by kernel_rfl) (fun K hK => ?_)
      rw [if_pos (by rfl)]
      refine wp_store_mid 29 _ _ rfl H 0 Y rfl rfl (by rw [HY.out, pc_size]; exact HZB.out.there) (by rw [infoPos, HY.out, pc_size]) (by rw [HY.out]; exact pc_one _) ?_
      rw [HYL.out]
      have HNB := Lib.hid (HZB.out.store (Q := q))
      replace HI := Lib.hid (HI.out.other HHL.out q)
      generalize V.setCells H 0 (pc q) = V at HNB HI ⊢
      refine hK.out _ _ (by first | exact HI.out | exact HI.out.go (Below.refl _ _).drew) (fun hHeld => ?_)
      clear hK K
      try simp only [aP, sA, sZ, sS]
      refine tq (i := 11) (d := some 7) rfl rfl ?_
      try simp only [aP, sA, sZ, sS]
      refine wpAnyH_done (by kernel_rfl) ?_ _
      refine NoPanic.normal ?_
      clear hHeld
      go_wp2_with fail
      go_meet
      exact ⟨H, rfl, rfl, HNB.out, HI.out⟩
  case rest =>
  obtain ⟨H, rfl, rfl, h1, h2⟩ := hcut
  have HQ := Lib.hid h1
  have HI := Lib.hid h2
  clear h1 h2 MV
  go_upto_region 4 with (fail)
  refine forget_B (fun W => JB B b P w W (s : Int) (n : Int) k ∧ PB W H q) ⟨HI.out, HQ.out⟩ ?_
  clear HI HQ
  rintro W4 ⟨h1, h2⟩
  have HI := Lib.hid h1
  have HQ := Lib.hid h2
  clear h1 h2
  obtain ⟨bq, hbq⟩ : ∃ b : Bool, (!(er == 0) || ch) = b := ⟨_, rfl⟩
  rw [hbq] at HOK
  go_cut [37] from 27 to 37 (fun v wx => v = .bool bq ∧ JB B b P w wx (s : Int) (n : Int) k ∧ PB wx H q)
  case first =>
    have c9 : ∀ dd os, Calls Tryz.prog 95 #[.agg Y, .int .i64 sd] (grow (redrawn W4 dd) os) fun e w'' => e = .returned (.bool ch) ∧ ∃ p : Regrown, w'' = grow (redrawn W4 p.d) p.os := fun dd os =>
      Calls.regrown_of (MK.out _ (HI.out.go (below_regrown W4 dd os)).j.gs (HI.out.go (below_regrown W4 dd os)).j.s)
    have e1 := cell_regrown (HI.out.j.p.cell 128 (by omega))
    rw [HSD.out] at e1
    have HCQ := Lib.hid HQ.out.regrown
    have HBQ := Lib.hid hbq
    clear hbq
    by_cases h0 : er = 0
    · subst h0
      refine wp_region_quiet_below (by kernel_rfl) (by kernel_rfl) ?_
      iterate 3 (go_big_quiet_step (fail))
      refine wpQuiet_pos (by rfl) _ (by rfl) H q Y HY.out (by rfl) HCQ.out ?_
      try simp only [aP, sA, sZ, sS]
      iterate 5 (go_big_quiet_step (fail))
      go_big_quiet_step (exact c9 _ _)
      repeat (go_big_quiet_step (fail))
      refine wpQuiet_nil ?_
      rintro W9 ⟨pq, rfl⟩
      replace HI := Lib.hid (HI.out.go (below_regrown W4 pq.d pq.os))
      replace HQ := Lib.hid (HQ.out.go (below_regrown W4 pq.d pq.os))
      generalize grow (redrawn W4 pq.d) pq.os = W9 at HI HQ ⊢
      try go_wp2_with fail
      go_meet
      exact ⟨by rw [← HBQ.out]; simp, HI.out, HQ.out⟩
    · have h0b : (er != 0) = true := by simp [h0]
      have h0c : (er == 0) = false := by simp [h0]
      clear h0
      refine wp_region_quiet_below (by kernel_rfl) (by kernel_rfl) ?_
      repeat (go_big_quiet_step (fail))
      refine wpQuiet_nil ?_
      rintro W9 ⟨pq, rfl⟩
      replace HI := Lib.hid (HI.out.go (below_regrown W4 pq.d pq.os))
      replace HQ := Lib.hid (HQ.out.go (below_regrown W4 pq.d pq.os))
      generalize grow (redrawn W4 pq.d) pq.os = W9 at HI HQ ⊢
      try go_wp2_with fail
      go_meet
      exact ⟨by rw [← HBQ.out, h0c]; rfl, HI.out, HQ.out⟩
  case rest =>
  obtain ⟨rfl, h1, h2⟩ := hcut
  replace HI := Lib.hid h1
  replace HQ := Lib.hid h2
  clear h1 h2 hbq MK
  cases bq
  case true =>
    have HOK2 := Lib.hid (show ok = false by rw [HOK.out]; rfl)
    have HN2 := Lib.hid (show nx = fun _ => 0 by rw [HNX.out, HOK2.out]; rfl)
    clear HOK HNX
    go_upto_region 5 with (fail)
    refine forget_B (fun W => JB B b P w W (s : Int) (n : Int) k) HI.out ?_
    clear HI HQ
    intro W2 hi
    have HI := Lib.hid hi
    clear hi
    go_upto_region 5 with (fail)
    refine wp_region_lit ?_
    refine wpList_plain rfl (fun K hK => ?_)
    go_simp
    refine hK _ _ ?_
    clear hK K
    refine wpList_store_mid rfl 90 _ _ rfl (w.heap.size + 1) 0 (pc fun _ => 0).toArray rfl (congrArg Value.agg zeroJudge) (by rw [pc_size]; exact HI.out.z.there) (by rw [infoJudge, pc_size]) (pc_one _) ?_
    rw [List.toList_toArray]
    obtain ⟨hr1, hb1⟩ := HI.out.stored (Q := fun _ => 0)
    have HR := Lib.hid hr1
    have HB := Lib.hid hb1
    clear hr1 hb1 HI
    generalize W2.setCells (w.heap.size + 1) 0 (pc fun _ => 0) = W8 at HR HB ⊢
    refine wpList_plain rfl (fun K hK => ?_)
    go_simp
    refine hK _ _ ?_
    clear hK K
    show Exit.then _ _ Exit.normal _ _
    refine ret_go (by assumption) ?_
    repeat (first | refine then_ret ?_ | refine block_ret ?_)
    refine bodyPost_ret (v := .tuple #[.agg (pc fun _ => 0).toArray, .bool false]) ?_ rfl ⟨by rw [HN2.out, HOK2.out], HB.out⟩
    exact results_mid2 (p := 4) (u := 5) (ty := 90) rfl _ W8 (w.heap.size + 1) _ _ _ rfl rfl HR.out Tryz.underlying90 rfl (by rw [infoJudge, pc_len])
  have HOK2 := Lib.hid (show ok = true by rw [HOK.out]; rfl)
  have HN2 := Lib.hid (show nx = q by rw [HNX.out, HOK2.out]; rfl)
  clear HOK HNX
  go_upto_region 6 with (fail)
  refine forget_B (fun W => JB B b P w W (s : Int) (n : Int) k ∧ PB W H q) ⟨HI.out, HQ.out⟩ ?_
  clear HI HQ
  rintro W2 ⟨h1, h2⟩
  have HI := Lib.hid h1
  have HQ := Lib.hid h2
  clear h1 h2
  go_upto_region 6 with (fail)
  refine wp_region_lit ?_
  refine wpList_pos (by rfl) _ (by rfl) H q Y HY.out (by rfl) HQ.out ?_
  have hfold := HFO.out
  have hYs : Y.size = 133 := by rw [HY.out, pc_size]
  refine wpList_plain rfl (fun K hK => ?_)
  go_simp
  refine hK _ _ ?_
  clear hK K hfold hYs
  refine wpList_store_mid rfl 90 _ _ rfl (w.heap.size + 1) 0 Y rfl rfl (by rw [HY.out, pc_size]; exact HI.out.z.there) (by rw [infoJudge, HY.out, pc_size]) (by rw [HY.out]; exact pc_one _) ?_
  refine forgetL_B (fun W => W.rangeAt (w.heap.size + 1) 0 (pc q) ∧ Below w.heap.size w W) (by rw [HYL.out]; exact HI.out.stored (Q := q)) ?_
  rintro W8 ⟨hr1, hb1⟩
  have HR := Lib.hid hr1
  have HB := Lib.hid hb1
  clear hr1 hb1 HI HQ
  refine wpList_plain rfl (fun K hK => ?_)
  go_simp
  refine hK _ _ ?_
  clear hK K
  show Exit.then _ _ Exit.normal _ _
  refine ret_go (by assumption) ?_
  repeat (first | refine then_ret ?_ | refine block_ret ?_)
  refine bodyPost_ret (v := .tuple #[.agg (pc q).toArray, .bool true]) ?_ rfl ⟨by rw [HN2.out, HOK2.out], HB.out⟩
  exact results_mid2 (p := 4) (u := 5) (ty := 90) rfl _ W8 (w.heap.size + 1) _ _ _ rfl rfl HR.out Tryz.underlying90 rfl (by rw [infoJudge, pc_len])
end Go.Proofs.YtkncfeijlmomaaaGreatDoor

namespace Go.Proofs.YtkncfeijlmomaaaGreatDoor
open Go.RowKit
set_option linter.unusedSimpArgs false
set_option linter.unusedVariables false
set_option maxRecDepth 20000

variable {P : Program} {α : Type}

/-- THE ITERATOR's CONTRACT: of whatever loop l: the elements of xs come, in their order, until a round says 'no more'. N: the blocks that it reads; J: what the rounds keep, X: the blocks that they may turn. -/
def Comes2 (P : Program) (g : FuncId) (lb : Array Value) (N : Nat → Prop) (enc : α → Array Value) (xs : List α) (w : World) : Prop :=
  (∀ k, N k → k < w.heap.size) ∧ ∀ (l : Nat) (J Jx : List α → (Nat → Prop) → World → Prop) (X : Nat → Prop) (W : World), Below w.heap.size w W → (∀ k, X k → ¬ N k) →
    (∀ s X A B, J s X A → Spares W.heap.size X A B → J s X B) → (∀ s X A B, Jx s X A → Spares W.heap.size X A B → Jx s X B) →
    (∀ s X A, J s X A → ∀ k, X k → k < A.heap.size) →
    (∀ pre x X A, J pre X A → pre ++ [x] <+: xs → YieldAt Fence.wide 0 P l (enc x) A fun e B => ∃ Y, Turns X A B ∧ (∀ k, Y k → X k ∨ A.heap.size ≤ k) ∧
      ((e = .returned (.bool true) ∧ J (pre ++ [x]) Y B) ∨ (e = .returned (.bool false) ∧ Jx (pre ++ [x]) Y B))) →
    J [] X W →
    Calls P g (#[.func (.yield l) #[] #[]] ++ lb) W fun e B => (∃ v, e = .returned v) ∧ ∃ Y, J xs Y B ∨ ∃ pre, pre <+: xs ∧ Jx pre Y B
theorem Comes2.later {g : FuncId} {lb : Array Value} {N : Nat → Prop} {enc : α → Array Value} {xs : List α} {w w' : World} (h : Comes2 P g lb N enc xs w) (hb : Below w.heap.size w w') : Comes2 P g lb N enc xs w' :=
  ⟨fun k hk => Nat.lt_of_lt_of_le (h.1 k hk) hb.size, fun l J Jx X W hW => h.2 l J Jx X W (hb.trans (hW.mono hb.size))⟩

end Go.Proofs.YtkncfeijlmomaaaGreatDoor

namespace Go.Proofs.YtkncfeijlmomaaaGreatDoor
open Go.RowKit Go.Sort
set_option linter.unusedSimpArgs false
set_option linter.unusedVariables false
set_option maxRecDepth 20000
attribute [local go_sem] Oper.semAt_some

/-- the legal moves -/
def okL (P : Nat → Int) (m : Int × Int × Int) : Bool := okM P m.1.toNat m.2.1.toNat m.2.2
def legU (P : Nat → Int) (m : Nat) : List (Int × Int × Int) := ((allM P).take m).filter (okL P)
def legM (P : Nat → Int) : List (Int × Int × Int) := (allM P).filter (okL P)
theorem legU_full (P : Nat → Int) : legU P (allM P).length = legM P := by unfold legU legM; rw [List.take_length]
theorem legU_pre (P : Nat → Int) (m : Nat) : legU P m <+: legM P := (List.take_prefix _ _).filter _
theorem legU_step (P : Nat → Int) (m : Nat) (h : m < (allM P).length) : ∃ (s t : Nat) (k : Int), s < 64 ∧ t < 64 ∧ mF (allM P) m = (s : Int) ∧ mT (allM P) m = (t : Int) ∧ mK (allM P) m = k ∧
    legU P (m + 1) = legU P m ++ (if okM P s t k then [((s : Int), (t : Int), k)] else []) ∧ (okM P s t k = true → legU P m ++ [((s : Int), (t : Int), k)] <+: legM P) := by
  obtain ⟨x, hx⟩ : ∃ x, (allM P)[m] = x := ⟨_, rfl⟩
  obtain ⟨s, t, hv⟩ := allM_mem P x (by rw [← hx]; exact List.getElem_mem h)
  have hxe : x = ((s : Int), (t : Int), x.2.2) := by rw [← hv.f, ← hv.t]
  have hg : (allM P).getD m (0, 0, 0) = x := by rw [List.getD_eq_getElem?_getD, List.getElem?_eq_getElem h, hx]; rfl
  have hu : legU P (m + 1) = legU P m ++ (if okM P s t x.2.2 then [((s : Int), (t : Int), x.2.2)] else []) := by
    unfold legU
    rw [List.take_succ_eq_append_getElem h, List.filter_append, hx]
    congr 1
    rw [List.filter_cons, List.filter_nil]
    unfold okL
    rw [hv.f, hv.t, Int.toNat_natCast, Int.toNat_natCast]
    split
    · rw [← hxe]
    · rfl
  refine ⟨s, t, x.2.2, hv.hs, hv.hn, by unfold mF; rw [hg, hv.f], by unfold mT; rw [hg, hv.t], by unfold mK; rw [hg], hu, fun ho => ?_⟩
  have := legU_pre P (m + 1)
  rw [hu, if_pos ho] at this
  exact this
def encL (P : Nat → Int) (m : Int × Int × Int) : Array Value := #[.agg #[.int .i64 m.1, .int .i64 m.2.1, .int .i64 m.2.2], .agg (pc (nxP P m.1.toNat m.2.1.toNat m.2.2)).toArray]
/-- what the iterator reads -/
structure LJ (B b mb : Nat) (P : Nat → Int) (W : World) : Prop where
  m : W.heap[mb]? = some (.cells #[.pointer (some ⟨b, 0, none⟩)] 123 (0, 0))
  p : PB W b P
  gb : GB B W
  gs : GS B W
  gm : GM B W
  gp : GP B W
  k : B ≤ W.heap.size
def LN (B b mb : Nat) (q : Nat) : Prop := q = b ∨ q = mb ∨ q < B
theorem LJ.lt {B b mb : Nat} {P : Nat → Int} {A : World} (h : LJ B b mb P A) : ∀ k, LN B b mb k → k < A.heap.size := by
  rintro q (rfl | rfl | hq)
  · exact h.p.lt
  · exact al_lt h.m
  · exact Nat.lt_of_lt_of_le hq h.k
theorem LJ.go {B b mb : Nat} {P : Nat → Int} {A C : World} (h : LJ B b mb P A) (g : Below A.heap.size A C) : LJ B b mb P C :=
  ⟨sl_go h.m g, h.p.go g, h.gb.below (g.mono h.k), h.gs.below (g.mono h.k), h.gm.below (g.mono h.k), h.gp.below (g.mono h.k), Nat.le_trans h.k g.size⟩
theorem LJ.reads (B b mb : Nat) (P : Nat → Int) : ∀ Y A C, LJ B b mb P A → (∀ q, Y q → ¬ LN B b mb q) → Turns Y A C → LJ B b mb P C := fun Y A C h hx ht => by
  have hb : Below B A C := ⟨ht.os, ht.tape, ht.output, ht.size, fun k hk => ht.block k (Nat.lt_of_lt_of_le hk h.k) (fun e => hx k e (.inr (.inr hk)))⟩
  exact ⟨(ht.block mb (al_lt h.m) (fun e => hx mb e (.inr (.inl rfl)))).trans h.m, h.p.same ht.size (ht.block b h.p.lt (fun e => hx b e (.inl rfl))), h.gb.below hb, h.gs.below hb, h.gm.below hb, h.gp.below hb, Nat.le_trans h.k ht.size⟩
theorem LJ.q {B b mb : Nat} {P : Nat → Int} {A : World} (h : LJ B b mb P A) : JQ B b P A A := JQ.begin h.p h.gb h.gs h.gm h.gp h.k
/-- an owned row of moves lies in one block -/
theorem reads3_row {W : World} {g : Nat} {cur : Array Value} {l : List (Int × Int × Int)} (hg : W.heap[g]? = some (.cells cur 46 (0, 0))) (ht : cur.toList.take (l.length * 3) = mvals l) :
    Reads3 W.heap.size W (some ⟨g, 0, none⟩) l.length (mF l) (mT l) (mK l) := by
  refine .inr ⟨g, 0, rfl, (Array.getElem?_eq_some_iff.1 hg).1, fun i hi => ?_⟩
  have key : ∀ j u, j < l.length * 3 → (mvals l)[j]? = some u → W.cell? ⟨g, 0 + j, none⟩ = some u := by
    intro j u hj hu
    rw [cell_of_row W g (0 + j) cur _ (0, 0) hg, Nat.zero_add]
    rw [← ht, List.getElem?_take_of_lt hj] at hu
    simpa using hu
  obtain ⟨h1, h2, h3⟩ := mvals_get l i hi
  exact ⟨key _ _ (by omega) h1, by rw [Nat.add_assoc]; exact key _ _ (by omega) h2, by rw [Nat.add_assoc]; exact key _ _ (by omega) h3⟩
/-- a judge is laid into a block of its own, in a region that does not draw -/
theorem wpList_newJ {ops : Array Oper} {rest : List Oper} {d : Tmp} {y : Operand} {t1 t2 : TypeId} {p1 p2 : String} {e1 e2 : Array Edge} {a : Act} {w : World} {Q : Exit → Act → World → Prop}
    (E : Array Value) (P : Nat → Int) (hE : E = (pc P).toArray) (hx : (a.put (some d) (.pointer (some ⟨w.heap.size, 0, none⟩))).eval (.tmp d) = .pointer (some ⟨w.heap.size, 0, none⟩)) (hy : (a.put (some d) (.pointer (some ⟨w.heap.size, 0, none⟩))).eval y = .agg E)
    (k : ∀ W, PB W w.heap.size P → Below w.heap.size w W → W.heap.size = w.heap.size + 1 → wpList Tryz.prog ops Q rest (a.put (some d) (.pointer (some ⟨w.heap.size, 0, none⟩))) W) :
    wpList Tryz.prog ops Q ({ dst := some d, op := .alloc 90, type := t1, pos := p1, after := e1, guard := none } :: { dst := none, op := .store 90 (.tmp d) y, type := t2, pos := p2, after := e2, guard := none } :: rest) a w := by
  subst hE
  refine wpList_plain rfl (fun K hK => ?_)
  go_simp
  refine hK _ _ ?_
  clear hK K
  have hpn : PB (w.alloc (.cells Tryz.zeroCells90 90)) w.heap.size (fun _ => 0) := by rw [zeroJudge]; exact PB.new rfl
  refine wpList_store_mid rfl 90 _ _ rfl w.heap.size 0 (pc P).toArray hx hy (by rw [pc_size]; exact hpn.there) (by rw [infoJudge, pc_size]) (pc_one P) ?_
  rw [List.toList_toArray]
  exact k _ (hpn.store (Q := P)) (below_store (b := w.heap.size) P (below_new _) (Nat.le_refl _) (by simp)) (by rw [sizes_B]; simp)
theorem wpIn_jud {F : Fence} {n : Nat} {op : Oper} {a : Act} {w : World} {K : Act → World → Prop} {Q : Exit → Act → World → Prop} (x : Operand) (ho : op.op = .load 90 x)
    (b : Nat) (P : Nat → Int) (X : Array Value) (hX : X = (pc P).toArray) (hx : a.eval x = .pointer (some ⟨b, 0, none⟩)) (hc : PB w b P) (h : K (a.put op.dst (.agg X)) w) : op.wpIn F n Tryz.prog a w K Q := by
  subst hX
  refine ⟨fun f hf => ?_, ?_⟩
  · simp [Oper.about, ho] at hf
  · rw [Oper.semAt_eq _ _ _ (by simp [ho])]
    unfold execOp
    simp only [ho, hx, Instr.loadAt, Instr.sureAddr, Sem.run_bind, Sem.run_pure, Result.andThen_ok, run_loadVar_mid w b 0 _ (pc P) _ hc.range Tryz.underlying90 rfl (by rw [infoJudge, pc_len])]
    exact h
theorem listIn_go {F : Fence} {n : Nat} {P : Program} {ops : Array Oper} {Q : Exit → Act → World → Prop} {rest : List Oper} {K : Act → World → Prop} {a : Act} {w : World} (h : ∀ a w, wpListIn F n P ops Q rest a w → K a w) (hq : wpListIn F n P ops Q rest a w) : K a w := h _ _ hq
theorem allM_len (P : Nat → Int) : (allM P).length ≤ 17920 := by
  have h1 := flatM_len P (upList (ownB P) 64)
  have h2 := upList_len (ownB P) 64
  unfold allM
  omega
set_option maxHeartbeats 4000000 in
set_option maxRecDepth 100000 in
theorem legal1_comes (B b mb : Nat) (P : Nat → Int) (w : World) (har : LJ B b mb P w) :
    Comes2 Tryz.prog 101 #[.pointer (some ⟨mb, 0, none⟩)] (LN B b mb) (encL P) (legM P) w := by
  refine ⟨har.lt, fun l J Jx X W hW hXN hJ hJx hlt hY h0 => ?_⟩
  have HA := Lib.hid (har.go hW)
  have HJ := Lib.hid hJ
  have HJX := Lib.hid hJx
  have HLT := Lib.hid hlt
  have HY := Lib.hid hY
  have HR := Lib.hid (LJ.reads B b mb P)
  have HK := Lib.hid (show Keep J (LJ B b mb P) (LN B b mb) [] [] X W from ⟨h0, HA.out, fun p hp => (by cases hp), fun q hq => ⟨hXN q hq, fun p hp => (by cases hp)⟩⟩)
  have HS := Lib.hid (legU_step P)
  have HFU := Lib.hid (legU_full P)
  have HZE := Lib.hid (show legU P 0 = [] from rfl)
  obtain ⟨Z, hZ⟩ : ∃ Z, Z = (pc P).toArray := ⟨_, rfl⟩
  have HAL := Lib.hid (fun W h1 h2 h3 => all_any P W B h1 h2 h3)
  rw [← hZ] at HAL
  have HZ := Lib.hid hZ
  have MB := Lib.hid (fun (s t : Nat) (k : Int) hs ht W h => behind_any B b P s t k hs ht W h)
  clear har hW hXN hJ hJx hlt hY h0 HA hZ
  go_enter Tryz.func101, Tryz.ntmps101
  obtain ⟨c0, cf, _⟩ := row1 HK.out.r.m
  go_wp2_with (refine wpList_pos (by rfl) _ (by rfl) b P Z HZ.out (by rfl) HK.out.r.p ?_)
  clear c0 cf
  refine (HAL.out _ HK.out.r.gs HK.out.r.gm HK.out.r.k).mono ?_
  rintro e w1 ⟨v, rfl, hb, hrow⟩
  obtain ⟨n, hn⟩ : ∃ n, (allM P).length = n := ⟨_, rfl⟩
  obtain ⟨O, p, c, rfl, hrd, hko⟩ : ∃ (O : List (Nat × Obj)) (p : Option Addr) (c : Nat), v = .slice p n c ∧ (∀ pre Y W, Keep J (LJ B b mb P) (LN B b mb) O pre Y W → Reads3 W.heap.size W p n (mF (allM P)) (mT (allM P)) (mK (allM P))) ∧ Keep J (LJ B b mb P) (LN B b mb) O [] X w1 := by
    have hk1 := HK.out.go HR.out HJ.out hb
    rw [← hn]
    rcases hrow.2 with ⟨rfl, h0⟩ | ⟨g, cap, cur, rfl, hbb, hg, hnc, hcm, hcs, ht⟩
    · exact ⟨[], none, 0, by rw [h0], fun _ _ _ _ => .inl h0, hk1⟩
    · refine ⟨[(g, .cells cur 46 (0, 0))], _, _, rfl, fun pre Y W h => reads3_row h.head ht, hk1.put hg fun e => ?_⟩
      have := HLT.out _ _ _ HK.out.j g e
      omega
  have HRD := Lib.hid hrd
  replace HK := Lib.hid hko
  have HN := Lib.hid hn
  clear hb hrow hrd hko hn HAL HZ
  rw [HN.out] at HFU
  have hnb : n ≤ 17920 := by rw [← HN.out]; exact allM_len P
  dsimp only
  refine list_go (by assumption) ?_
  go_wp2
  go_loopw [13] (fun i wr => ∃ (m : Nat) (Y : Nat → Prop), m ≤ n ∧ i = .int .i64 (m : Int) ∧ Keep J (LJ B b mb P) (LN B b mb) O (legU P m) Y wr) (fun i _ => n - (intOf i).toNat)
  case atStart => exact ⟨0, _, Nat.zero_le _, rfl, by rw [HZE.out]; exact HK.out⟩
  case round =>
    clear HK
    obtain ⟨m, Y, hm, rfl, hk⟩ := hrel
    have HK := Lib.hid hk
    clear hk
    by_cases hlt : m < n
    · obtain ⟨s, t, k, hs, ht, q1, q2, q3, hstep, hpre⟩ := HS.out m (by rw [HN.out]; exact hlt)
      have hrd := HRD.out _ _ _ HK.out
      obtain ⟨pb, po, rfl⟩ := hrd.addr hlt
      obtain ⟨e0, e1, e2⟩ := hrd.cells hlt
      rw [q1] at e0
      rw [q2] at e1
      rw [q3] at e2
      clear q1 q2 q3 hrd
      have MB1 := Lib.hid (fun W h => MB.out s t k hs ht W h)
      obtain ⟨ok, hok⟩ : ∃ x, okM P s t k = x := ⟨_, rfl⟩
      obtain ⟨N, hNx⟩ : ∃ x, nxP P s t k = x := ⟨_, rfl⟩
      obtain ⟨V, hV⟩ : ∃ V, V = (pc N).toArray := ⟨_, rfl⟩
      rw [hok] at hstep hpre MB1
      rw [hNx, ← hV] at MB1
      have HEN := Lib.hid (show encL P ((s : Int), (t : Int), k) = #[.agg #[.int .i64 (s : Int), .int .i64 (t : Int), .int .i64 k], .agg V] by unfold encL; simp only [Int.toNat_natCast]; rw [hNx, ← hV])
      have HSS := Lib.hid hstep
      have HPF := Lib.hid hpre
      have HV := Lib.hid hV
      clear hs ht hok hNx hV hstep hpre
      have i0 : (0 : Int) ≤ (m : Int) := by omega
      go_upto_region 3 with (fail)
      clear e0 e1 e2
      refine forget_B (fun W => Keep J (LJ B b mb P) (LN B b mb) O (legU P m) Y W ∧ W.heap[wr.heap.size]? = some (.cells #[.int .i64 (s : Int), .int .i64 (t : Int), .int .i64 k] 46 (0, 0))) ⟨HK.out.go HR.out HJ.out (below_new _), sl_at rfl⟩ ?_
      clear HK
      rintro W1 ⟨h1, h2⟩
      have HK := Lib.hid h1
      have HMM := Lib.hid h2
      obtain ⟨q0, q1, q2, qf, qz⟩ := row3 h2
      obtain ⟨c0, cf, _⟩ := row1 h1.r.m
      clear h1 h2
      go_wp2_with fail
      refine (MB1.out _ HK.out.r.q).mono ?_
      rintro e w1 ⟨rfl, hb⟩
      replace HK := Lib.hid (HK.out.go HR.out HJ.out hb)
      replace HMM := Lib.hid (sl_go HMM.out hb)
      clear q0 q1 q2 qf qz c0 cf hb MB1
      dsimp only
      refine list_go (by assumption) ?_
      iterate 3
        refine wpList_plain rfl (fun K hK => ?_)
        go_simp
        refine hK _ _ ?_
        clear hK K
      refine wpList_newJ V N HV.out (by rfl) (by rfl) (fun W2 hp hb hsz => ?_)
      replace HK := Lib.hid (HK.out.go HR.out HJ.out hb)
      replace HMM := Lib.hid (sl_go HMM.out hb)
      have HPN := Lib.hid hp
      clear hp hb hsz
      generalize w1.heap.size = H at *
      generalize wr.heap.size = H0 at *
      go_upto_region 4 with (fail)
      obtain ⟨q0, q1, q2, qf, qz⟩ := row3 HMM.out
      refine (wpIn_wide (n := 0)).1 ?_
      cases ok
      · gi_wp2
        refine ⟨fun _ _ => trivial, ?_⟩
        gi_wp2
        go_wp2
        go_roundw
        case rel => exact ⟨m + 1, Y, by omega, by go_num, by rw [HSS.out]; simpa using HK.out⟩
        case measure => simp [intOf]; omega
      · obtain ⟨fn, tmps, assign, body, hy, hR8⟩ := (show YieldAt Fence.wide 0 Tryz.prog l #[.agg #[.int .i64 (s : Int), .int .i64 (t : Int), .int .i64 k], .agg V] W2 _ from HEN.out ▸ HY.out _ ((s : Int), (t : Int), k) Y W2 HK.out.j (HPF.out rfl))
        gi_wp2
        refine wpIn_jud _ (by rfl) H N V HV.out (by rfl) HPN.out ?_
        refine listIn_go (by assumption) ?_
        gi_wp2
        refine ⟨rfl, (roundIn_wide hR8).mono ?_⟩
        clear hR8 hy
        rintro e B8 ⟨Z2, hT, hZ2, (⟨rfl, hJB⟩ | ⟨rfl, hJB⟩)⟩
        · have HK6 := Lib.hid (HK.out.turn HR.out HK.out.r.lt hT hZ2 hJB)
          clear hT hZ2 hJB HK q0 q1 q2 qf qz
          gi_wp2
          go_wp2
          go_roundw
          case rel => exact ⟨m + 1, Z2, by omega, by go_num, by rw [HSS.out]; exact HK6.out⟩
          case measure => simp [intOf]; omega
        · gi_wp2
          go_wp2
          refine bodyPost_ret (results_none rfl _ _ _) rfl ?_
          exact ⟨⟨_, rfl⟩, Z2, .inr ⟨_, HPF.out (by trivial), hJB⟩⟩
    · obtain rfl : m = n := by omega
      go_wp2
      go_end0
      exact ⟨⟨_, rfl⟩, Y, .inl (by rw [← HFU.out]; exact HK.out.j)⟩
end Go.Proofs.YtkncfeijlmomaaaGreatDoor

namespace Go.Proofs.YtkncfeijlmomaaaGreatDoor
open Go.RowKit Go.Sort
set_option linter.unusedSimpArgs false
set_option linter.unusedVariables false
set_option maxRecDepth 20000
attribute [local go_sem] Oper.semAt_some

theorem JQ.later {B b : Nat} {P : Nat → Int} {w W : World} (hp : PB W b P) (hgb : GB B w) (hgs : GS B w) (hgm : GM B w) (hgp : GP B w) (hB : B ≤ w.heap.size) (g : Below w.heap.size w W) : JQ B b P W W :=
  JQ.begin hp (hgb.below (g.mono hB)) (hgs.below (g.mono hB)) (hgm.below (g.mono hB)) (hgp.below (g.mono hB)) (Nat.le_trans hB g.size)
set_option maxHeartbeats 2000000 in
set_option maxRecDepth 100000 in
theorem position_any (P : Nat → Int) (w : World) (B : Nat) (hgb : GB B w) (hgs : GS B w) (hgm : GM B w) (hgp : GP B w) (hB : B ≤ w.heap.size) :
    Calls Tryz.prog 25 #[.agg (pc P).toArray] w fun e w' => e = .returned (.bool (posB P)) ∧ Below w.heap.size w w' := by
  obtain ⟨X, hX⟩ : ∃ X, X = (pc P).toArray := ⟨_, rfl⟩
  rw [← hX]
  have HP00 := Lib.hid (pos_box P w X hX 29)
  have HX := Lib.hid hX
  have HSZ := Lib.hid (show X.size = 133 by rw [hX, pc_size])
  have HFO := Lib.hid (fold_jud X HSZ.out)
  have HBW0 := Lib.hid (below_new (w := w) (.cells X 29))
  have HQ := Lib.hid (fun W b (h1 : PB W b P) h2 => JQ.later h1 hgb hgs hgm hgp hB h2)
  clear hX hgb hgs hgm hgp
  go_enter Tryz.func25, Tryz.ntmps25
  go_upto_region 1 with (fail)
  generalize w.alloc (.cells X 29) = W0 at *
  refine wp_region_lit ?_
  refine wpList_pos (by rfl) _ (by rfl) w.heap.size P X HX.out (by rfl) HP00.out ?_
  have hfold := HFO.out
  have hsz := HSZ.out
  refine wpList_plain rfl (fun K hK => ?_)
  go_simp
  refine hK _ _ ?_
  clear hK K hfold hsz
  refine wpList_newJ X P HX.out (by rfl) (by rfl) (fun W2 hp hb hsz => ?_)
  have HB := Lib.hid (HBW0.out.trans (hb.mono HBW0.out.size))
  have HI := Lib.hid (HQ.out _ _ hp HB.out)
  clear hp hb hsz HP00 HBW0 HQ
  generalize W0.heap.size = H at HI ⊢
  show Exit.then _ _ Exit.normal _ _
  go_wp2_with fail
  refine (jPos_any B H P W2 HI.out).mono ?_
  rintro e w3 ⟨rfl, hb⟩
  replace HB := Lib.hid (HB.out.trans (hb.mono HB.out.size))
  clear hb
  dsimp only
  refine list_go (by assumption) ?_
  go_wp2
  go_ret
  exact ⟨q_b rfl, HB.out⟩
end Go.Proofs.YtkncfeijlmomaaaGreatDoor

namespace Go.Proofs.YtkncfeijlmomaaaGreatDoor
open Go.RowKit
set_option linter.unusedSimpArgs false
set_option linter.unusedVariables false
set_option maxRecDepth 20000

variable {P : Program} {α : Type}

/-- THE STATEMENT 'for x, y := range seq { body }', whose assignment makes memory -/
theorem wp_range_over3 {g : Operand} {ps : Array Tmp} {assign body : Code} {Q : Exit → Act → World → Prop} {a : Act} {w : World}
    {gf : Nat} {lb : Array Value} (hg : a.eval g = .func (.func gf) #[] lb) (eg : ∀ args w, (callFunc gf args).run P w = .ok (.enter gf args) w)
    {N : Nat → Prop} {enc : α → Array Value} {xs : List α} {w0 : World} (hseq : Comes2 P gf lb N enc xs w0) (hb0 : Below w0.heap.size w0 w) (hps : ∀ x, ps.size = (enc x).size)
    (I : List α → (Nat → Prop) → World → Prop) (Ix : Code → List α → (Nat → Prop) → World → Prop)
    (hI : ∀ s X A B, I s X A → Spares w.heap.size X A B → I s X B) (hIx : ∀ c s X A B, Ix c s X A → Spares w.heap.size X A B → Ix c s X B)
    (hlt : ∀ s X A, I s X A → ∀ k, X k → k < A.heap.size) {X0 : Nat → Prop} (h0 : I [] X0 w) (hX0 : ∀ k, X0 k → ¬ N k) (a₁ : α → World → Act) (as₁ : α → World → World) (has : ∀ x V, Below V.heap.size V (as₁ x V))
    (hassign : ∀ (l : Nat) (x : α) (W : World) (K : Act → World → Prop), K (a₁ x W) (as₁ x W) →
      assign.wpIn (Fence.wide.inRound l) 0 P (Exit.then K (fun _ _ _ => False)) { tmps := (ps.zip (enc x)).foldl (fun t (p, v) => t.setIfInBounds p v) a.tmps, defers := [] } W)
    (hbody : ∀ (l : Nat) (pre : List α) (x : α) (X : Nat → Prop) (V W : World), I pre X W → pre ++ [x] <+: xs → w.heap.size ≤ V.heap.size → (∀ k, X k → k < V.heap.size) → (as₁ x V).heap.size = W.heap.size → (∀ k, V.heap.size ≤ k → k < (as₁ x V).heap.size → W.heap[k]? = (as₁ x V).heap[k]?) → body.wpIn (Fence.wide.inRound l) 0 P (roundQ I Ix X (pre ++ [x]) W) (a₁ x V) W)
    (hdone : ∀ (Y : Nat → Prop) (W : World), I xs Y W → W.heap[w.heap.size]? = some (.deferred (some [])) → ¬ Y w.heap.size → I xs Y (W.putObj w.heap.size (.deferred none)) → Q .normal { a with defers := { target := .collected w.heap.size, args := #[] } :: a.defers } W)
    (hstop : ∀ (c : Code) (pre : List α) (Y : Nat → Prop) (W : World), pre <+: xs → Ix c pre Y W → W.heap[w.heap.size]? = some (.deferred (some [])) → ¬ Y w.heap.size → Ix c pre Y (W.putObj w.heap.size (.deferred none)) → c.wp P Q { a with defers := { target := .collected w.heap.size, args := #[] } :: a.defers } W) :
    (Code.rangeFunc g ps assign body).wp P Q a w := by
  refine (wpIn_wide (n := 0)).1 (wpIn_rangeFunc fun fn hfn => ?_)
  obtain ⟨rec, hrec⟩ : ∃ rec : LoopState → Option Code → Loop, rec = fun st pe => { state := st, pending := pe, fn, tmps := a.tmps, params := ps, assign, body, defers := w.heap.size } := ⟨_, rfl⟩
  obtain ⟨W1, hW1⟩ : ∃ W1, (w.alloc (.deferred (some []))).alloc (.loop (rec .ready none)) = W1 := ⟨_, rfl⟩
  have hs1 : W1.heap.size = w.heap.size + 2 := by rw [← hW1]; simp
  have hL1 : W1.heap[w.heap.size + 1]? = some (.loop (rec .ready none)) := by
    rw [← hW1]; have := World.alloc_heap_new (w.alloc (.deferred (some []))) (.loop (rec .ready none)); rwa [World.size_alloc] at this
  have hK1 : W1.heap[w.heap.size]? = some (.deferred (some [])) := by
    rw [← hW1]; exact (Below.heap_alloc _ _ _ (by simp)).trans (World.alloc_heap_new w _)
  have hbw : Below w.heap.size w W1 := by rw [← hW1]; exact ((Below.refl _ w).alloc (Nat.le_refl _) _).alloc (by simp) _
  have hI1 : I [] X0 W1 := hI _ _ _ _ h0 (.of_below hbw)
  refine ⟨w.heap.size + 1, [{ target := .collected w.heap.size, args := #[] }], W1, { target := .fn (.func gf) lb, args := #[.func (.yield (w.heap.size + 1)) #[] #[]] }, W1, gf,
    #[.func (.yield (w.heap.size + 1)) #[] #[]] ++ lb, W1, ?_, ?_, fun _ _ => trivial, ?_, fun h => by simp [Fence.wide] at h, callsIn_wide.2 ?_⟩
  · rw [← hW1, hrec]; exact run_enterLoop_outer _ _ _ _ _
  · simp only [resolve, hg]
    simp [go_sem]
  · simp [invoke, go_sem, eg]
  · -- the steps of the iterator, and those of the book
    have bookI : ∀ (F : (Nat → Prop) → World → Prop) (r : Loop) (Z : Nat → Prop) (A B : World), (∀ X A B, F X A → Spares w.heap.size X A B → F X B) →
        Book F r (w.heap.size + 1) w.heap.size Z A → Spares W1.heap.size Z A B → Book F r (w.heap.size + 1) w.heap.size Z B := by
      intro F r Z A B hF h hs
      obtain ⟨X, hX, h1, h2, hz⟩ := h.inn
      have hl : w.heap.size + 1 < A.heap.size := (Array.getElem?_eq_some_iff.1 h.L).1
      exact ⟨⟨X, hF X A B hX ((hs.mono (by omega)).less fun k hk => (hz k).2 (.inl hk)), h1, h2, hz⟩, (hs.block _ hl (.inl (by omega))).trans h.L, (hs.block _ (by omega) (.inl (by omega))).trans h.K⟩
    refine (hseq.2 (w.heap.size + 1) (fun pre => Book (I pre) (rec .ready none) (w.heap.size + 1) w.heap.size) (fun pre Z W => ∃ c, Book (Ix c pre) (rec .done (some c)) (w.heap.size + 1) w.heap.size Z W)
      (fun k => X0 k ∨ k = w.heap.size + 1 ∨ k = w.heap.size) W1 (hb0.trans (hbw.mono hb0.size)) ?_
      (fun s Z A B => bookI _ _ Z A B (fun X A B => hI s X A B)) (fun s Z A B ⟨c, h⟩ hs => ⟨c, bookI _ _ Z A B (fun X A B => hIx c s X A B) h hs⟩) ?_ ?_ ?_).mono ?_
    · intro k hk hn
      have h1 := hseq.1 k hn
      have h2 := hb0.size
      rcases hk with h | h | h
      · exact hX0 k h hn
      · omega
      · omega
    · intro s Z A h k hk
      obtain ⟨X, hX, _, _, hz⟩ := h.inn
      have hl : w.heap.size + 1 < A.heap.size := (Array.getElem?_eq_some_iff.1 h.L).1
      rcases (hz k).1 hk with h1 | h1 | h1
      · exact hlt _ _ _ hX k h1
      · omega
      · omega
    · -- ONE ROUND
      intro pre x Z A h hpre
      obtain ⟨X, hX, hn1, hn2, hz⟩ := h.inn
      have hL := h.L
      have hK := h.K
      have hl : w.heap.size + 1 < A.heap.size := (Array.getElem?_eq_some_iff.1 hL).1
      have hy := run_yield (P := P) (args := (enc x)) hL (by rw [hrec]; first | exact (hps x).symm | exact hps x | simp [hps x])
      rw [hrec] at hy
      have hbA := has x A
      refine ⟨fn, _, assign, body, hy, roundIn_of_wpIn hfn (hassign _ x A _ ⟨_, run_beginRound ((hbA.block _ hl).trans hL) (by rw [hrec]), ?_⟩)⟩
      clear hy
      have hXV := fun k hk => hlt _ _ _ hX k hk
      have hnew : ∀ k, A.heap.size ≤ k → k < (as₁ x A).heap.size → (as₁ x A).heap[k]? = (as₁ x A).heap[k]? := fun _ _ _ => rfl
      obtain ⟨V, hVe⟩ : ∃ V, V = A := ⟨_, rfl⟩
      have hlV : w.heap.size + 1 < V.heap.size := by rw [hVe]; exact hl
      replace hX := hI _ _ _ _ hX (.of_below (n := w.heap.size) (X := X) hbA)
      replace hL := (hbA.block _ hl).trans hL
      replace hK := (hbA.block _ (by omega)).trans hK
      have htA : Turns Z V (as₁ x A) := by rw [hVe]; exact .of_below hbA
      have hsA : V.heap.size ≤ (as₁ x A).heap.size := by rw [hVe]; exact hbA.size
      rw [← hVe]
      rw [← hVe] at hX hL hK htA hsA hXV hnew hbA hl
      clear hVe
      obtain ⟨A, hA⟩ : ∃ A, as₁ x V = A := ⟨_, rfl⟩
      rw [hA]
      rw [hA] at hX hL hK htA hsA hnew
      replace hl : w.heap.size + 1 < A.heap.size := by omega
      obtain ⟨A2, hA2⟩ : ∃ A2, A.putObj (w.heap.size + 1) (.loop { rec .ready none with state := .busy }) = A2 := ⟨_, rfl⟩
      rw [hA2]
      have hs2 : A2.heap.size = A.heap.size := by rw [← hA2]; simp
      have hL2 : A2.heap[w.heap.size + 1]? = some (.loop { rec .ready none with state := .busy }) := by rw [← hA2]; exact World.putObj_heap_same hl
      have hK2 : A2.heap[w.heap.size]? = some (.deferred (some [])) := by rw [← hA2]; exact (World.putObj_heap_other (by omega)).trans hK
      have hX2 : I pre X A2 := by rw [← hA2]; exact hI _ _ _ _ hX (spares_putObj _ (by omega) hn1)
      have hT2 : Turns Z A A2 := by rw [← hA2]; exact turns_putObj _ ((hz _).2 (.inr (.inl rfl)))
      refine wpIn_mono (hbody _ pre x X V A2 hX2 hpre (by omega) hXV (by rw [hA, hs2]) (fun k h1 h2 => by rw [hA, ← hA2]; exact World.putObj_heap_other (by omega))) ?_
      have fin : ∀ (jump : Option Code) (F : (Nat → Prop) → World → Prop) (A3 : World) (Y : Nat → Prop), (∀ X A B, F X A → Spares w.heap.size X A B → F X B) → Turns X A2 A3 → (∀ k, Y k → X k ∨ A2.heap.size ≤ k) → F Y A3 →
          (Instr.endRound (w.heap.size + 1) jump).run P A3 = .ok (.bool jump.isNone) (A3.putObj (w.heap.size + 1) (.loop (rec (if jump.isNone then .ready else .done) jump))) ∧
          Turns Z V (A3.putObj (w.heap.size + 1) (.loop (rec (if jump.isNone then .ready else .done) jump))) ∧
          ∃ Z', (∀ k, Z' k → Z k ∨ V.heap.size ≤ k) ∧ Book F (rec (if jump.isNone then .ready else .done) jump) (w.heap.size + 1) w.heap.size Z' (A3.putObj (w.heap.size + 1) (.loop (rec (if jump.isNone then .ready else .done) jump))) := by
        intro jump F A3 Y hF hT hY hFY
        have hL3 := (hT.block _ (by omega) hn1).trans hL2
        have hK3 := (hT.block _ (by omega) hn2).trans hK2
        have hy1 : ¬ Y (w.heap.size + 1) := fun e => by rcases hY _ e with h | h; exact hn1 h; omega
        have hy2 : ¬ Y w.heap.size := fun e => by rcases hY _ e with h | h; exact hn2 h; omega
        have he := run_endRound (P := P) jump hL3
        rw [hrec] at he ⊢
        refine ⟨he, ?_, fun k => Y k ∨ k = w.heap.size + 1 ∨ k = w.heap.size, ?_, ⟨Y, hF _ _ _ hFY (spares_putObj _ (by omega) hy1), hy1, hy2, fun k => Iff.rfl⟩, ?_, ?_⟩
        · refine (((htA.trans hT2 fun k hk => .inl hk)).trans (hT.mono fun k hk => (hz k).2 (.inl hk)) fun k hk => .inl hk).trans (turns_putObj (X := Z) _ ((hz _).2 (.inr (.inl rfl)))) fun k hk => .inl hk
        · rintro k (hk | hk | hk)
          · rcases hY k hk with h | h
            · exact .inl ((hz k).2 (.inl h))
            · exact .inr (by omega)
          · exact .inl ((hz k).2 (.inr (.inl hk)))
          · exact .inl ((hz k).2 (.inr (.inr hk)))
        · exact World.putObj_heap_same (Array.getElem?_eq_some_iff.1 hL3).1
        · exact (World.putObj_heap_other (by omega)).trans hK3
      rintro e a3 A3 hp
      cases e with
      | normal =>
        obtain ⟨Y, hT, hY, hI3⟩ := hp
        obtain ⟨hr, hT3, Z', hZ', hB⟩ := fin none (I (pre ++ [x])) A3 Y (fun X A B => hI _ X A B) hT hY hI3
        exact ⟨_, _, hr, Z', hT3, hZ', .inl ⟨rfl, hB⟩⟩
      | ret =>
        obtain ⟨Y, hT, hY, hI3⟩ := hp
        obtain ⟨hr, hT3, Z', hZ', hB⟩ := fin (some .ret) (Ix .ret (pre ++ [x])) A3 Y (fun X A B => hIx _ _ X A B) hT hY hI3
        exact ⟨_, _, hr, Z', hT3, hZ', .inr ⟨rfl, .ret, hB⟩⟩
      | exit id =>
        obtain ⟨Y, hT, hY, hI3⟩ := hp
        obtain ⟨hr, hT3, Z', hZ', hB⟩ := fin (some (.exit id)) (Ix (.exit id) (pre ++ [x])) A3 Y (fun X A B => hIx _ _ X A B) hT hY hI3
        exact ⟨_, _, hr, Z', hT3, hZ', .inr ⟨rfl, .exit id, hB⟩⟩
      | goto t =>
        obtain ⟨Y, hT, hY, hI3⟩ := hp
        obtain ⟨hr, hT3, Z', hZ', hB⟩ := fin (some (.goto t)) (Ix (.goto t) (pre ++ [x])) A3 Y (fun X A B => hIx _ _ X A B) hT hY hI3
        exact ⟨_, _, hr, Z', hT3, hZ', .inr ⟨rfl, .goto t, hB⟩⟩
      | panic ch => exact hp.elim
      | outgrown => exact hp.elim
    · exact ⟨⟨X0, hI1, fun e => by have := hlt _ _ _ h0 _ e; omega, fun e => by have := hlt _ _ _ h0 _ e; omega, fun k => Iff.rfl⟩, hL1, hK1⟩
    · -- BEHIND THE ITERATOR
      have fin : ∀ (F : (Nat → Prop) → World → Prop) (st : LoopState) (pe : Option Code) (Z : Nat → Prop) (B : World), st ≠ .busy → (∀ X A B, F X A → Spares w.heap.size X A B → F X B) → Book F (rec st pe) (w.heap.size + 1) w.heap.size Z B →
          ∃ B' Y, (Instr.endLoop (w.heap.size + 1)).run P B = .ok pe B' ∧ F Y B' ∧ B'.heap[w.heap.size]? = some (.deferred (some [])) ∧ ¬ Y w.heap.size ∧ F Y (B'.putObj w.heap.size (.deferred none)) := by
        intro F st pe Z B hst hF h
        obtain ⟨X, hX, hn1, hn2, hz⟩ := h.inn
        have he := run_endLoop (P := P) h.L (by rw [hrec]; exact hst)
        rw [hrec] at he
        have h3 := hF _ _ (B.putObj (w.heap.size + 1) (.loop { rec st pe with state := .exhausted })) hX (spares_putObj _ (by omega) hn1)
        rw [hrec] at h3
        exact ⟨_, X, he, h3, (World.putObj_heap_other (by omega)).trans h.K, hn2, hF _ _ _ h3 (spares_putObj _ (Nat.le_refl _) hn2)⟩
      rintro e B ⟨⟨v, rfl⟩, Z, (hJ | ⟨pre, hpre, c, hJ⟩)⟩
      · obtain ⟨B', Y, he, h1, h2, h4, h3⟩ := fin _ _ _ Z B (by simp) (fun X A B => hI _ X A B) hJ
        exact ⟨none, B', he, hdone Y B' h1 h2 h4 h3⟩
      · obtain ⟨B', Y, he, h1, h2, h4, h3⟩ := fin _ _ _ Z B (by simp) (fun X A B => hIx c _ X A B) hJ
        exact ⟨some c, B', he, wpIn_wide.2 (hstop c pre Y B' hpre h1 h2 h4 h3)⟩
end Go.Proofs.YtkncfeijlmomaaaGreatDoor

namespace Go.Proofs.YtkncfeijlmomaaaGreatDoor
open Go.RowKit Go.Sort
set_option linter.unusedSimpArgs false
set_option linter.unusedVariables false
set_option maxRecDepth 20000
attribute [local go_sem] Oper.semAt_some

theorem legal_any (b : Nat) (w : World) :
    Calls Tryz.prog 64 #[.pointer (some ⟨b, 0, none⟩)] w fun e w' =>
      e = .returned (.func (.func 101) #[] #[.pointer (some ⟨w.heap.size, 0, none⟩)]) ∧ w' = w.alloc (.cells #[.pointer (some ⟨b, 0, none⟩)] 123) := by
  go_enter Tryz.func64, Tryz.ntmps64
  go_wp2
  go_ret
  exact ⟨rfl, rfl⟩
/-- what stands between two rounds: the row of the moves that came -/
structure ApL (w : World) (pre : List (Int × Int × Int)) (X : Nat → Prop) (W : World) : Prop where
  below : Below w.heap.size w W
  box : ∃ v, W.heap[w.heap.size]? = some (.cells #[v] 42 (0, 0)) ∧ W.ownsRow w.heap.size 46 3 v pre.length (mvals pre) ∧ ∀ k, X k ↔ k = w.heap.size ∨ v.ownBlock = some k
theorem ApL.lt {w : World} {pre : List (Int × Int × Int)} {X : Nat → Prop} {W : World} (h : ApL w pre X W) : ∀ k, X k → k < W.heap.size := by
  obtain ⟨v, hv, hr, hx⟩ := h.box
  intro k hk
  rcases (hx k).1 hk with rfl | h1
  · exact (Array.getElem?_eq_some_iff.1 hv).1
  · exact (hr.lt k h1).2
theorem ApL.spare {w : World} {pre : List (Int × Int × Int)} {X : Nat → Prop} {A B : World} {n : Nat} (h : ApL w pre X A) (hn : w.heap.size ≤ n) (hs : Spares n X A B) : ApL w pre X B := by
  obtain ⟨v, hv, hr, hx⟩ := h.box
  refine ⟨h.below.trans (hs.below h.below.size hn), v, (hs.block _ (Array.getElem?_eq_some_iff.1 hv).1 (.inr ((hx _).2 (.inl rfl)))).trans hv, owns_same hr fun g hg hl => hs.block g hl (.inr ((hx g).2 (.inr hg))), hx⟩
theorem legM_len (P : Nat → Int) : (legM P).length ≤ 17920 := Nat.le_trans (List.length_filter_le _ _) (allM_len P)
/-- what Moves answers -/
def lmM (P : Nat → Int) : List (Int × Int × Int) := if posB P then legM P else []
set_option maxHeartbeats 4000000 in
set_option maxRecDepth 100000 in
theorem lMoves_any (P : Nat → Int) (w : World) (B : Nat) (hgb : GB B w) (hgs : GS B w) (hgm : GM B w) (hgp : GP B w) (hB : B ≤ w.heap.size) :
    Calls Tryz.prog 31 #[.agg (pc P).toArray] w fun e w' => ∃ v, e = .returned v ∧ Below w.heap.size w w' ∧ w'.ownsRow w.heap.size 46 3 v (lmM P).length (mvals (lmM P)) := by
  obtain ⟨i1, hi1, hk⟩ : ∃ i, Tryz.prog.info? 46 = some i ∧ (i.zero, i.size, i.bytes) = (some (.agg #[.int .i64 0, .int .i64 0, .int .i64 0]), 3, 24) := by
    have h : (Tryz.prog.info? 46).map (fun i => (i.zero, i.size, i.bytes)) = some (some (.agg #[.int .i64 0, .int .i64 0, .int .i64 0]), 3, 24) := by kernel_rfl
    exact Option.map_eq_some_iff.1 h
  simp only [Prod.mk.injEq] at hk
  obtain ⟨hk0, hk1, hk2⟩ := hk
  have HIN := Lib.hid (And.intro hi1 (And.intro hk0 (And.intro hk1 hk2)))
  clear hi1 hk0 hk1 hk2
  obtain ⟨X, hX⟩ : ∃ X, X = (pc P).toArray := ⟨_, rfl⟩
  rw [← hX]
  have HP00 := Lib.hid (pos_box P w X hX 29)
  have HX := Lib.hid hX
  have HSZ := Lib.hid (show X.size = 133 by rw [hX, pc_size])
  have HFO := Lib.hid (fold_jud X HSZ.out)
  have HBW0 := Lib.hid (below_new (w := w) (.cells X 29))
  have HQ := Lib.hid (fun W b (h1 : PB W b P) h2 => JQ.later h1 hgb hgs hgm hgp hB h2)
  obtain ⟨ps, hps⟩ : ∃ x, posB P = x := ⟨_, rfl⟩
  have HLM := Lib.hid (show lmM P = if ps then legM P else [] by unfold lmM; rw [hps])
  have HPOS := Lib.hid (fun b W h => jPos_any B b P W h)
  rw [hps] at HPOS
  clear hX hgb hgs hgm hgp hps
  refine calls_of_marks Tryz.func31 rfl ?_
  simp only [Tryz.ntmps31, List.size_toArray, List.length_cons, List.length_nil, Nat.reduceAdd, Nat.reduceSub, Array.replicate_succ, Array.replicate_zero, List.push_toArray, List.append_toArray, List.nil_append, List.cons_append]
  go_upto_region 1 with (fail)
  generalize w.alloc (.cells X 29) = W0 at *
  refine wp_region_lit ?_
  refine wpList_pos (by rfl) _ (by rfl) w.heap.size P X HX.out (by rfl) HP00.out ?_
  have hfold := HFO.out
  have hsz := HSZ.out
  refine wpList_plain rfl (fun K hK => ?_)
  go_simp
  refine hK _ _ ?_
  clear hK K hfold hsz
  refine wpList_newJ X P HX.out (by rfl) (by rfl) (fun W2 hp hb hsz => ?_)
  have HB := Lib.hid (HBW0.out.trans (hb.mono HBW0.out.size))
  have HI := Lib.hid (HQ.out _ _ hp HB.out)
  have HW0 := Lib.hid hsz
  clear hp hb HP00 HBW0 HQ
  have HH := Lib.hid (show W0.heap.size < W2.heap.size by omega)
  clear hsz HW0
  generalize W0.heap.size = H at *
  show Exit.then _ _ Exit.normal _ _
  go_wp2_with fail
  refine (HPOS.out H W2 HI.out).mono ?_
  rintro e w3 ⟨rfl, hb⟩
  replace HB := Lib.hid (HB.out.trans (hb.mono HB.out.size))
  replace HI := Lib.hid (HI.out.go hb).anew
  have HH3 := Lib.hid (Nat.lt_of_lt_of_le HH.out hb.size)
  clear hb HH HPOS
  dsimp only
  refine list_go (by assumption) ?_
  cases ps
  · go_wp2
    refine ⟨_, results_tmp rfl _ _ _, .slice none 0 0, rfl, HB.out, ?_⟩
    rw [HLM.out]
    exact World.ownsRow_nil _ _ _ _
  · have HLM2 := Lib.hid (show lmM P = legM P by rw [HLM.out]; rfl)
    clear HLM
    go_wp2_with fail
    refine (legal_any H _).mono ?_
    rintro e w4 ⟨rfl, rfl⟩
    have har : LJ B H (w3.heap.size + 1) P ((w3.alloc (.cells #[.slice none 0 0] 42)).alloc (.cells #[.pointer (some ⟨H, 0, none⟩)] 123)) := by
      have hb : Below w3.heap.size w3 ((w3.alloc (.cells #[.slice none 0 0] 42)).alloc (.cells #[.pointer (some ⟨H, 0, none⟩)] 123)) := (below_new _).alloc (by simp) _
      have h := HI.out.go hb
      exact ⟨sl_at (by simp), h.p, h.gb, h.gs, h.gm, h.gp, h.s⟩
    have HAR := Lib.hid har
    have HW4 := Lib.hid (((below_new (w := w3) (.cells #[.slice none 0 0] 42))).alloc (by simp) (.cells #[.pointer (some ⟨H, 0, none⟩)] 123))
    have HV4 := Lib.hid (show ((w3.alloc (.cells #[.slice none 0 0] 42)).alloc (.cells #[.pointer (some ⟨H, 0, none⟩)] 123)).heap[w3.heap.size]? = some (.cells #[.slice none 0 0] 42 (0, 0)) from al_old (sl_at rfl) _)
    have hmb : (w3.alloc (.cells #[.slice none 0 0] 42)).heap.size = w3.heap.size + 1 := by simp
    rw [hmb]
    generalize (w3.alloc (.cells #[.slice none 0 0] 42)).alloc (.cells #[.pointer (some ⟨H, 0, none⟩)] 123) = W4 at *
    clear hmb har
    go_wp2
    refine wp_range_over3 (gf := 101) (lb := #[.pointer (some ⟨w3.heap.size + 1, 0, none⟩)]) rfl (enters_of Tryz.func101 (by kernel_rfl) rfl) (legal1_comes B H (w3.heap.size + 1) P W4 HAR.out) (Below.refl _ _) (fun x => rfl) (fun pre X W => ApL w3 pre X W) (fun _ _ _ _ => False)
      (fun s X A B h hs => h.spare HW4.out.size hs) (fun _ _ _ _ _ h _ => h) (fun s X A h => h.lt) (X0 := fun k => k = w3.heap.size) ?start ?disj
      (fun x V => { tmps := #[.agg X, .pointer (some ⟨w.heap.size, 0, none⟩), .slice none 0 0, .pointer (some ⟨H, 0, none⟩), .pointer (some ⟨w3.heap.size, 0, none⟩), .pointer (some ⟨V.heap.size, 0, none⟩), .agg X, .agg X, .bool true, .bool false, .func (.func 101) #[] #[.pointer (some ⟨w3.heap.size + 1, 0, none⟩)], .agg #[.int .i64 x.1, .int .i64 x.2.1, .int .i64 x.2.2], .agg (pc (nxP P x.1.toNat x.2.1.toNat x.2.2)).toArray, undef, undef, undef, undef, undef], defers := [] })
      (fun x V => V.alloc (.cells #[.int .i64 x.1, .int .i64 x.2.1, .int .i64 x.2.2] 46)) (fun x V => below_new _) ?assign ?body ?done ?stop
    case start => exact ⟨HW4.out, _, HV4.out, World.ownsRow_nil _ _ _ _, fun k => by simp [Value.ownBlock]⟩
    case disj =>
      have h1 := HH3.out
      have h2 := HI.out.s
      rintro k rfl (hk | hk | hk)
      · omega
      · omega
      · omega
    case assign =>
      rintro l ⟨f, t, k⟩ W K hK
      dsimp only [encL]
      dsimp only at hK
      generalize (pc (nxP P f.toNat t.toNat k)).toArray = N at *
      gi_wp2
      exact hK
    case body =>
      rintro l' pre ⟨f, t, k⟩ X7 V W7 h hpre hVs hXV hsz hnew
      dsimp only at hsz hnew
      have hlp : pre.length + 1 ≤ 17920 := by
        have h1 := hpre.length_le
        have h2 := legM_len P
        simp at h1; omega
      dsimp only
      have hm : W7.heap[V.heap.size]? = some (.cells #[.int .i64 f, .int .i64 t, .int .i64 k] 46 (0, 0)) := (hnew _ (Nat.le_refl _) (by simp)).trans (sl_at rfl)
      obtain ⟨q0, q1, q2, qf, qz⟩ := row3 hm
      obtain ⟨v, hv, hrow, hx⟩ := h.box
      have hB := h.below.size
      have hc : W7.cell? ⟨w3.heap.size, 0, none⟩ = some v := by rw [cell_of_row W7 _ 0 _ _ (0, 0) hv]; rfl
      have HX7 := Lib.hid hx
      have HV := Lib.hid hv
      have HA := Lib.hid h
      have hne : v.ownBlock ≠ some w3.heap.size := owns_off hrow hv (by decide)
      obtain ⟨hi1, hk0, hk1, hk2⟩ := HIN.out
      clear hx h hpre hsz hnew hXV hm
      generalize (pc (nxP P f.toNat t.toNat k)).toArray = N at *
      gi_wp2_with (gi_at_builtin; refine wpListIn_append_lies _ rfl _ _ 42 rfl w3.heap.size 46 i1 (.agg #[.int .i64 0, .int .i64 0, .int .i64 0]) 3 24 Tryz.underlying42 hi1 hk0 hk1 hk2 rfl (by decide) _ _ _ rfl (owns_go hrow ((Below.refl _ _).alloc (Nat.le_refl _) _)) ⟨W7.heap.size, 0, none⟩ 1 1 [.int .i64 f, .int .i64 t, .int .i64 k] rfl rfl (World.news_of_block (heap_alloc_new _ _)) (by intro y hy; simp at hy; rcases hy with rfl | rfl | rfl <;> rfl) (by decide) (by unfold maxLen; omega) (by omega) (by simp; omega) (W7.heap.size + 1) (by simp) ?_; intro g1 cap1 w1 hown1 hgrow1 hat1 hlt1; have hv1 := sl_grown (al_old hv _) hgrow1 hne; have hc1 : w1.cell? ⟨w3.heap.size, 0, none⟩ = some v := (by rw [cell_of_row w1 _ 0 _ _ (0, 0) hv1]; rfl); have hf1 := frozen_of_row w1 w3.heap.size 0 _ _ hv1)
      rw [mvals_snoc] at hown1
      replace hat1 : v.ownBlock = some g1 ∨ g1 = W7.heap.size + 1 := hat1
      replace hgrow1 : (W7.alloc (.cells #[.int .i64 f, .int .i64 t, .int .i64 k] 46)).grownBy w1 v.ownBlock := hgrow1
      have hne1 : (Value.slice (some ⟨g1, 0, none⟩) (pre.length + 1) cap1).ownBlock ≠ some w3.heap.size := owns_off hown1 hv1 (by decide)
      have hs1 : (W7.alloc (.cells #[.int .i64 f, .int .i64 t, .int .i64 k] 46)).heap.size = W7.heap.size + 1 := by simp
      refine ⟨fun k => k = w3.heap.size ∨ some g1 = some k, ?_, ?_, ?_, ?_⟩
      · have hg0 : W7.grownBy w1 v.ownBlock := ⟨hgrow1.os, hgrow1.tape, hgrow1.output, Nat.le_trans (by simp) hgrow1.size, fun k hk hn => (hgrow1.block k (by omega) hn).trans (heap_alloc_old W7 _ hk)⟩
        refine ⟨hg0.os, hg0.tape, hg0.output, by rw [World.size_setCell]; exact hg0.size, fun k hk hn => ?_⟩
        rw [Below.heap_setCell _ _ _ k (fun e => hn ((HX7.out k).2 (.inl e)))]
        exact hg0.block k hk (fun e => hn ((HX7.out k).2 (.inr e.symm)))
      · rintro k (rfl | hk)
        · exact .inl ((HX7.out _).2 (.inl rfl))
        · rcases hat1 with h1 | h1
          · exact .inl ((HX7.out _).2 (.inr (h1.trans hk)))
          · right; cases hk; omega
      · have hb1 : Below w3.heap.size w3 w1 := (HA.out.below.alloc hB _).grown hgrow1 (by omega) (fun k e => (hrow.lt k e).1)
        exact hb1.setCell (p := ⟨w3.heap.size, 0, none⟩) (Nat.le_refl _) _
      · refine ⟨_, Go.heap_setCell_same w1 w3.heap.size 0 _ _ _ hv1, ?_, fun k => Iff.rfl⟩
        rw [List.length_append]
        exact owns_same hown1 fun g hg hl => Below.heap_setCell _ _ _ g (fun e => by rw [e] at hg; exact hne1 hg)
    case done =>
      intro Y W h hK _ h2
      obtain ⟨v, hv, hrow, _⟩ := h.box
      have hc : W.cell? ⟨w3.heap.size, 0, none⟩ = some v := by rw [cell_of_row W _ 0 _ _ (0, 0) hv]; rfl
      obtain ⟨v2, hv2, hrow2, _⟩ := h2.box
      have e2 : v2 = v := by
        have h3 := (World.putObj_heap_other (w := W) (o := .deferred none) (k := w3.heap.size) (r := W4.heap.size) (Nat.ne_of_lt (al_lt HV4.out))).trans hv
        rw [h3] at hv2
        simpa using hv2.symm
      subst e2
      have HR := Lib.hid hrow2
      have HBL := Lib.hid (HB.out.trans (h2.below.mono HB.out.size))
      clear hv hrow h2 h hv2 hrow2
      go_wp2
      refine ⟨by simp, .inl ⟨_, _, rfl, run_takeDeferred hK, ?_⟩⟩
      refine ⟨_, results_tmp rfl _ _ _, v2, rfl, HBL.out, ?_⟩
      rw [HLM2.out]
      exact ⟨HR.out.1, HR.out.2.imp id fun ⟨g, cap, cur, e1, e2, e3⟩ => ⟨g, cap, cur, e1, Nat.le_trans HB.out.size e2, e3⟩⟩
    case stop =>
      intro c pre Y W _ h
      exact h.elim
end Go.Proofs.YtkncfeijlmomaaaGreatDoor
