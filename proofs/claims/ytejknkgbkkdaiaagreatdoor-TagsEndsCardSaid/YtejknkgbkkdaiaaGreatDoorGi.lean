/-
  Contract: what the document's maker is meant to tell.
-/
import Derived.Test.YtejknkgbkkdaiaaGreatDoorGh
namespace Go.Proofs.YtejknkgbkkdaiaaGreatDoor
open Go.RowKit
set_option linter.unusedVariables false
set_option linter.unusedSimpArgs false

/-- the tag that a maker tells -/
noncomputable def tgA (real : Bool) (sd : Nat → BitVec 8) (sm : Nat) (L : List Thing) (y : Ask) : Nat → BitVec 8 := if real then y.real sd sm else numT (idx (addT L y.thing) y.thing)
/-- what it was asked behind that -/
noncomputable def nxA (real : Bool) (L : List Thing) (y : Ask) : List Thing := if real then L else addT L y.thing
/-- the document's maker behind a question -/
def AfterR (rb : Nat) (real : Bool) (sv av : Value) (b0 : Nat) (s : Nat → BitVec 8) (L2 : List Thing) (W : World) (e : Ending) (w' : World) : Prop :=
  ∃ av', e = .returned (tagV s) ∧ Rch rb av.ownBlock W w' ∧ RMk w' rb real sv av' b0 L2 ∧ (∀ tb f, BT w' tb 32 f → av.ownBlock ≠ some tb → av'.ownBlock ≠ some tb) ∧ (real = true → av' = av)
theorem AfterR.table {rb b0 : Nat} {sv av : Value} {s : Nat → BitVec 8} {L : List Thing} {x : Thing} {W w' : World} {e : Ending} (h : ∃ av', e = .returned (tagV s) ∧ Rch rb av.ownBlock W w' ∧ RMk w' rb false sv av' b0 (addT L x)) : AfterR rb false sv av b0 s (addT L x) W e w' := by
  obtain ⟨av', h1, h2, h3⟩ := h
  exact ⟨av', h1, h2, h3, fun tb f hb _ => h3.off_bt (addT_pos L x) hb, fun e => (by cases e)⟩
theorem AfterR.real {rb b0 : Nat} {sv av : Value} {s : Nat → BitVec 8} {L : List Thing} {W w' : World} {e : Ending} (hm : RMk W rb true sv av b0 L) (h : e = .returned (tagV s) ∧ Below W.heap.size W w') : AfterR rb true sv av b0 s L W e w' :=
  ⟨av, h.1, Rch.of h.2, hm.go h.2, fun _ _ _ h => h, fun _ => rfl⟩
/-- what lies there while it is asked -/
structure RB4 (w : World) (rb : Nat) (real : Bool) (sv av : Value) (b0 : Nat) (L : List Thing) (y : Ask) (W : World) : Prop where
  bel : Below w.heap.size w W
  box : W.heap[w.heap.size]? = some (.cells #[.int .i64 y.what, .slice y.kp y.kn y.kc, .slice y.p y.m y.c, .int .i64 y.k] 38 (0, 0))
  tg : BT W (w.heap.size + 1) 32 (fun _ => 0#8)
  rm : RMk W rb real sv av b0 L
theorem RB4.go {w W W' : World} {rb b0 : Nat} {real : Bool} {sv av : Value} {L : List Thing} {y : Ask} (h : RB4 w rb real sv av b0 L y W) (g : Below W.heap.size W W') : RB4 w rb real sv av b0 L y W' :=
  ⟨h.bel.trans (g.mono h.bel.size), laid_go h.box g, h.tg.below' g, h.rm.go g⟩
theorem RB4.start {w : World} {rb b0 : Nat} {real : Bool} {sv av : Value} {L : List Thing} {y : Ask} (h : RMk w rb real sv av b0 L) : RB4 w rb real sv av b0 L y ((w.alloc (.cells #[.int .i64 y.what, .slice y.kp y.kn y.kc, .slice y.p y.m y.c, .int .i64 y.k] 38)).alloc (.cells (List.replicate 32 (Value.int .u8 0)).toArray 25)) := by
  have hb : Below w.heap.size w ((w.alloc (.cells #[.int .i64 y.what, .slice y.kp y.kn y.kc, .slice y.p y.m y.c, .int .i64 y.k] 38)).alloc (.cells (List.replicate 32 (Value.int .u8 0)).toArray 25)) := ((Below.refl _ _).alloc (Nat.le_refl _) _).alloc (by simp) _
  exact ⟨hb, laid_old (laid_at rfl), BT.of_cells (laid_at (by simp)) (fun i hi => zero_atL 32 i hi), h.go hb⟩
set_option maxHeartbeats 2000000 in
set_option maxRecDepth 100000 in
theorem meant_any (rb : Nat) (real : Bool) (sp : Option Addr) (sm sc : Nat) (av : Value) (b0 : Nat) (L : List Thing) (sd : Nat → BitVec 8) (y : Ask) (w : World) (hb0 : b0 ≤ w.heap.size) (hL : L.length ≤ 1000000) (h : RMk w rb real (.slice sp sm sc) av b0 L)
    (hr : Reads w.heap.size w sp sm (fun j => .int .u8 (ub (sd j)))) (hz : sp = none → sm = 0) (hsm : sm ≤ 2147483500) (hy : y.lies w) (hys : y.small) :
    Calls Tryz.prog 11 #[.pointer (some ⟨rb, 0, none⟩), .agg #[.int .i64 y.what, .slice y.kp y.kn y.kc, .slice y.p y.m y.c, .int .i64 y.k]] w fun e w' => ∃ av', e = .returned (tagV (tgA real sd sm L y)) ∧ Rch rb av.ownBlock w w' ∧ RMk w' rb real (.slice sp sm sc) av' b0 (nxA real L y) ∧ (real = true → av' = av) := by
  have h0 := RB4.start (y := y) h
  obtain ⟨s, hs⟩ : ∃ s, s = tgA real sd sm L y := ⟨_, rfl⟩
  obtain ⟨L2, hL2⟩ : ∃ l, l = nxA real L y := ⟨_, rfl⟩
  have hb' : ∀ W, RB4 w rb real (.slice sp sm sc) av b0 L y W → b0 ≤ W.heap.size := fun W hW => Nat.le_trans hb0 hW.bel.size
  have HNN : ∃ N : Nat, IntKind.u64.wrap y.k = (N : Int) ∧ N = (IntKind.u64.wrap y.k).toNat := ⟨(IntKind.u64.wrap y.k).toNat, by rw [IntKind.wrap_u64]; omega, rfl⟩
  have HSUM := Lib.hid (show y.what % 3 = 0 → ∀ W p c, RB4 w rb real (.slice sp sm sc) av b0 L y W → Reads W.heap.size W p (pos y.ln y.m) (fun j => .int .u8 (ub (y.all j))) → (p = none → pos y.ln y.m = 0) → Calls Tryz.prog 28 #[.pointer (some ⟨rb, 0, none⟩), .slice p (pos y.ln y.m) c] W fun e w' => AfterR rb real (.slice sp sm sc) av b0 s L2 W e w' from fun hk W p c hW hp hpz => by
    rw [hs, hL2]
    unfold tgA nxA
    cases real with
    | false =>
      rw [show y.thing = (0, [], byL y.all (pos y.ln y.m), 0) from by unfold Ask.thing; rw [if_pos hk]]
      exact (rsumT_any rb _ av b0 L p _ c y.all W (hb' W hW) hL hW.rm hp hpz).mono fun e w' h => AfterR.table h
    | true =>
      rw [show y.real sd sm = sha y.all (pos y.ln y.m) from by unfold Ask.real; rw [if_pos hk]]
      exact (rsumR_any rb _ av b0 L p _ c y.all W hW.rm hp hpz hys.n).mono fun e w' h => AfterR.real hW.rm h)
  have HMAC := Lib.hid (show y.what % 3 = 1 → ∀ W p c, RB4 w rb real (.slice sp sm sc) av b0 L y W → Reads W.heap.size W p (pos y.ln y.m) (fun j => .int .u8 (ub (y.all j))) → (p = none → pos y.ln y.m = 0) → Calls Tryz.prog 30 #[.pointer (some ⟨rb, 0, none⟩), .slice y.kp y.kn y.kc, .slice p (pos y.ln y.m) c] W fun e w' => AfterR rb real (.slice sp sm sc) av b0 s L2 W e w' from fun hk W p c hW hp hpz => by
    have hyW := hy.below hW.bel
    rw [hs, hL2]
    unfold tgA nxA
    cases real with
    | false =>
      rw [show y.thing = (1, byL y.key y.kn, byL y.all (pos y.ln y.m), 0) from by unfold Ask.thing; rw [if_neg (by omega), if_pos hk]]
      exact (rmacT_any rb _ av b0 L y.kp y.kn y.kc y.key p _ c y.all W (hb' W hW) hL hW.rm hp hpz hyW.key hyW.kz).mono fun e w' h => AfterR.table h
    | true =>
      rw [show y.real sd sm = hmac y.key y.kn y.all (pos y.ln y.m) from by unfold Ask.real; rw [if_neg (by omega), if_pos hk]]
      exact (rmacR_any rb _ av b0 L y.kp y.kn y.kc y.key p _ c y.all W hW.rm hp hpz hyW.key hyW.kz hys.n hys.kn).mono fun e w' h => AfterR.real hW.rm h)
  have HDRW := Lib.hid (show y.what % 3 = 2 → ∀ W, RB4 w rb real (.slice sp sm sc) av b0 L y W → Calls Tryz.prog 31 #[.pointer (some ⟨rb, 0, none⟩), .int .i64 y.k] W fun e w' => AfterR rb real (.slice sp sm sc) av b0 s L2 W e w' from fun hk W hW => by
    rw [hs, hL2]
    unfold tgA nxA
    cases real with
    | false =>
      rw [show y.thing = (2, [], [], y.k) from by unfold Ask.thing; rw [if_neg (by omega), if_neg (by omega)]]
      exact (rdrawT_any rb _ av b0 L y.k W (hb' W hW) hL hW.rm).mono fun e w' h => AfterR.table h
    | true =>
      obtain ⟨N, hN, hN2⟩ := HNN
      rw [show y.real sd sm = sha (drwG sd sm N) (4 + sm + 8) from by unfold Ask.real; rw [if_neg (by omega), if_neg (by omega), hN2]]
      exact (rdrawR_any rb sp sm sc av b0 L sd y.k N hN W hW.rm ((hr.below hW.bel).mono hW.bel.size) hz hsm).mono fun e w' h => AfterR.real hW.rm h)
  have HJ := Lib.hid (show ∀ W, RB4 w rb real (.slice sp sm sc) av b0 L y W → Calls Tryz.prog 29 #[.slice y.p y.m y.c] W fun e w' => ∃ p c, e = .returned (.slice p (pos y.ln y.m) c) ∧ Below W.heap.size W w' ∧ Reads w'.heap.size w' p (pos y.ln y.m) (fun j => .int .u8 (ub (y.all j))) ∧ (p = none → pos y.ln y.m = 0) from fun W hW => by
    have hl := hy.below hW.bel
    refine (join_any _ _ y.p y.m y.c y.P y.ln y.C y.f y.all (Nat.le_refl _) hl.m hl.n hl.rows.rows hl.rows.row y.all_at).mono ?_
    rintro e w' ⟨v, rfl, hb, hown⟩
    obtain ⟨p, c, rfl, hrd, _, _⟩ := owns_reads hown
    exact ⟨p, c, rfl, hb, hrd, fun e => by
      rcases hrd with h0 | ⟨b, o, he, _⟩
      · exact h0
      · rw [e] at he; cases he⟩)
  rw [← hs, ← hL2]
  have HNE := Lib.hid (show w.heap.size + 1 ≠ rb ∧ av.ownBlock ≠ some (w.heap.size + 1) from ⟨by have := (Array.getElem?_eq_some_iff.1 h.box).1; omega, fun e => by have := (h.own.lt _ e).2; omega⟩)
  have HNX := Lib.hid (show w.heap.size ≠ rb ∧ some w.heap.size ≠ av.ownBlock from ⟨by have := (Array.getElem?_eq_some_iff.1 h.box).1; omega, fun e => by have := (h.own.lt _ e.symm).2; omega⟩)
  clear h hs hL2 hr hz hy hys hb0 hb' HNN
  go_enter Tryz.func11, Tryz.ntmps11
  go_upto_region 1 with (fail)
  refine forget_code (RB4 w rb real (.slice sp sm sc) av b0 L y) h0 ?_
  intro W hW
  have HW := Lib.hid hW
  obtain ⟨c0, c1, c2, c3⟩ := row4 hW.box
  clear hW h0
  have hw3 : 0 ≤ y.what % 3 ∧ y.what % 3 < 3 := ⟨Int.emod_nonneg _ (by omega), Int.emod_lt_of_pos _ (by omega)⟩
  go_wp2_with fail
  refine (pick3_any y.what W).mono ?_
  rintro e w' ⟨rfl, rfl⟩
  obtain ⟨kd, hkd⟩ : ∃ kd, y.what % 3 = kd := ⟨_, rfl⟩
  rw [hkd] at hw3 HSUM HMAC HDRW ⊢
  clear hkd
  by_cases k0 : kd = 0
  · subst k0
    replace HSUM := Lib.hid (HSUM.out rfl)
    clear HMAC HDRW hw3
    go_upto_region 3 with (fail)
    refine wp_region_lit ?_
    refine wpList_plain rfl (fun K hK => ?_)
    go_simp
    refine hK _ _ ?_
    clear hK K
    refine wpList_plain rfl (fun K hK => ?_)
    go_simp
    refine hK _ _ ?_
    clear hK K
    refine wpList_plain rfl (fun K hK => ?_)
    go_simp
    refine hK _ _ ?_
    clear hK K
    clear c0 c1 c2 c3
    refine wpList_plain rfl (fun K hK => ?_)
    go_simp
    refine (HJ.out _ HW.out).mono ?_
    rintro e W2 ⟨p, c, rfl, hb2, hrd, hpz⟩
    dsimp only
    refine hK _ _ ?_
    clear hK K
    have HB2 := Lib.hid (HW.out.bel.trans (hb2.mono HW.out.bel.size))
    replace HW := Lib.hid (HW.out.go hb2)
    have HRD := Lib.hid (And.intro hrd hpz)
    clear hb2 hrd hpz HJ
    refine wpList_plain rfl (fun K hK => ?_)
    go_simp
    refine (HSUM.out W2 p c HW.out HRD.out.1 HRD.out.2).mono ?_
    rintro e w14 ⟨av', rfl, hch, hrm, hof, hnv⟩
    dsimp only
    refine hK _ _ ?_
    clear hK K
    have HT := Lib.hid (hch.bt HW.out.tg HNE.out.1 (fun e => HNE.out.2 e.symm))
    have HM := Lib.hid hrm
    have HO := Lib.hid (hof _ _ HT.out HNE.out.2)
    have HCH := Lib.hid ((Rch.of HW.out.bel).trans hch)
    have HNV := Lib.hid hnv
    clear hch hrm hof hnv
    refine wpList_store_mid rfl 25 _ _ rfl (w.heap.size + 1) 0 (tagC s).toArray rfl rfl (by simpa [tagC_len] using HT.out.there 32 (Nat.le_refl _)) (by simp [infoTag, tagC_len]) (tagC_one _) ?_
    rw [List.toList_toArray]
    have HR5 := Lib.hid (World.rangeAt_setCells_same w14 (w.heap.size + 1) 0 (tagC s) (by rw [tagC_len]; exact HT.out.there 32 (Nat.le_refl _)))
    have gs := gr_setCells (hb := w.heap.size + 1) (tagC s) 0 w14
    have HM5 := Lib.hid (HM.out.gr gs HNE.out.1.symm HO.out)
    have HC5 := Lib.hid (HCH.out.new gs (by omega))
    generalize w14.setCells (w.heap.size + 1) 0 (tagC s) = W7 at HR5 HM5 HC5 ⊢
    clear gs
    show Exit.then _ _ Exit.normal _ W7
    go_wp2
    refine bodyPost_ret (v := tagV s) ?_ rfl ?_
    · exact results_cell_mid (p := 4) (ty := 25) rfl _ W7 (w.heap.size + 1) _ _ rfl HR5.out Tryz.underlying25 rfl (by simp [infoTag, tagC_len])
    · exact ⟨_, rfl, HC5.out, HM5.out, HNV.out⟩
  · by_cases k1 : kd = 1
    · subst k1
      replace HMAC := Lib.hid (HMAC.out rfl)
      clear HSUM HDRW hw3
      go_upto_region 5 with (fail)
      clear c0 c1 c2 c3
      refine wp_region_noPanic ?_
      refine wp_region_start (n := 8) (l := #[false, false, false, false, false, false, false, false]) (S := (fun W => (W.cell? ⟨w.heap.size, 0, none⟩ = some (.int .i64 y.what) ∧ W.cell? ⟨w.heap.size, 1, none⟩ = some (.slice y.kp y.kn y.kc) ∧ W.cell? ⟨w.heap.size, 2, none⟩ = some (.slice y.p y.m y.c) ∧ W.cell? ⟨w.heap.size, 3, none⟩ = some (.int .i64 y.k)))) (by kernel_rfl) rfl (by kernel_rfl) (by first | exact row4 HW.out.box | exact row4 (HW.out.go (Below.refl _ _).drew).box) (fun hHeld => ?_)
      replace HW := Lib.hid (HW.out.go (Below.refl _ _).drew)
      generalize World.drew _ = V2 at hHeld HW ⊢
      refine take_to (i := 0) (d := some 17) (v := ?_) (l' := #[true, false, false, false, false, false, false, false]) rfl rfl (by kernel_rfl) (by kernel_rfl) (by kernel_rfl) (by kernel_rfl) (fun _ _ _ h => h) (Or.inl ⟨by rfl, ?_⟩) (by assumption) ?_; rotate_left; · (intro w' hSw; (try dsimp only at hSw); go_simp; (try with_reducible rfl))
      try simp only [Act.put, List.setIfInBounds_toArray, List.set_cons_zero, List.set_cons_succ]
      refine take_to (i := 1) (d := some 18) (v := ?_) (l' := #[true, true, false, false, false, false, false, false]) rfl rfl (by kernel_rfl) (by kernel_rfl) (by kernel_rfl) (by kernel_rfl) (fun _ _ _ h => h) (Or.inl ⟨by rfl, ?_⟩) (by assumption) ?_; rotate_left; · (intro w' hSw; (try dsimp only at hSw); go_simp; (try with_reducible rfl))
      try simp only [Act.put, List.setIfInBounds_toArray, List.set_cons_zero, List.set_cons_succ]
      refine take_to (i := 2) (d := some 19) (v := ?_) (l' := #[true, true, true, false, false, false, false, false]) rfl rfl (by kernel_rfl) (by kernel_rfl) (by kernel_rfl) (by kernel_rfl) (fun _ _ _ h => h) (Or.inl ⟨by rfl, ?_⟩) (by assumption) ?_; rotate_left; · (intro w' hSw; (try dsimp only at hSw); go_simp; (try with_reducible rfl))
      try simp only [Act.put, List.setIfInBounds_toArray, List.set_cons_zero, List.set_cons_succ]
      refine take_to (i := 3) (d := some 20) (v := ?_) (l' := #[true, true, true, true, false, false, false, false]) rfl rfl (by kernel_rfl) (by kernel_rfl) (by kernel_rfl) (by kernel_rfl) (fun _ _ _ h => h) (Or.inl ⟨by rfl, ?_⟩) (by assumption) ?_; rotate_left; · (intro w' hSw; (try dsimp only at hSw); go_simp; (try with_reducible rfl))
      try simp only [Act.put, List.setIfInBounds_toArray, List.set_cons_zero, List.set_cons_succ]
      refine take_to (i := 4) (d := some 21) (v := ?_) (l' := #[true, true, true, true, true, false, false, false]) rfl rfl (by kernel_rfl) (by kernel_rfl) (by kernel_rfl) (by kernel_rfl) (fun _ _ _ h => h) (Or.inl ⟨by rfl, ?_⟩) (by assumption) ?_; rotate_left; · (intro w' hSw; (try dsimp only at hSw); go_simp; (try with_reducible rfl))
      try simp only [Act.put, List.setIfInBounds_toArray, List.set_cons_zero, List.set_cons_succ]
      refine one_to (i := 5) (l' := #[true, true, true, true, true, true, false, false]) rfl (by kernel_rfl) (by kernel_rfl) (fun K hK => ?_)
      go_simp
      refine (HJ.out _ HW.out).mono ?_
      rintro e W2 ⟨p, c, rfl, hb2, hrd, hpz⟩
      replace HW := Lib.hid (HW.out.go hb2)
      have HRD := Lib.hid (And.intro hrd hpz)
      clear hb2 hrd hpz HJ
      dsimp only
      refine hK.out _ _ (by first | exact row4 HW.out.box | exact row4 (HW.out.go (Below.refl _ _).drew).box) (fun hHeld => ?_)
      clear hK K
      try simp only [Act.put, List.setIfInBounds_toArray, List.set_cons_zero, List.set_cons_succ]
      refine one_to (i := 6) (l' := #[true, true, true, true, true, true, true, false]) rfl (by kernel_rfl) (by kernel_rfl) (fun K hK => ?_)
      go_simp
      refine (HMAC.out W2 p c HW.out HRD.out.1 HRD.out.2).mono ?_
      rintro e w14 ⟨av', rfl, hch, hrm, hof, hnv⟩
      have HT := Lib.hid (hch.bt HW.out.tg HNE.out.1 (fun e => HNE.out.2 e.symm))
      have HM := Lib.hid hrm
      have HO := Lib.hid (hof _ _ HT.out HNE.out.2)
      have HX := Lib.hid (hch.at HW.out.box HNX.out.1 HNX.out.2)
      have HCH := Lib.hid ((Rch.of HW.out.bel).trans hch)
      have HNV := Lib.hid hnv
      clear hch hrm hof hnv
      dsimp only
      refine hK.out _ _ (by exact row4 HX.out) (fun hHeld => ?_)
      clear hK K
      try simp only [Act.put, List.setIfInBounds_toArray, List.set_cons_zero, List.set_cons_succ]
      refine one_to (i := 7) (l' := #[true, true, true, true, true, true, true, true]) rfl (by kernel_rfl) (by kernel_rfl) (fun K hK => ?_)
      refine wp_store_mid 25 _ _ rfl (w.heap.size + 1) 0 (tagC s).toArray rfl rfl (by simpa [tagC_len] using HT.out.there 32 (Nat.le_refl _)) (by simp [infoTag, tagC_len]) (tagC_one _) ?_
      rw [List.toList_toArray]
      have HR5 := Lib.hid (World.rangeAt_setCells_same w14 (w.heap.size + 1) 0 (tagC s) (by rw [tagC_len]; exact HT.out.there 32 (Nat.le_refl _)))
      have gs := gr_setCells (hb := w.heap.size + 1) (tagC s) 0 w14
      have HM5 := Lib.hid (HM.out.gr gs HNE.out.1.symm HO.out)
      have HC5 := Lib.hid (HCH.out.new gs (by omega))
      have HX5 := Lib.hid ((gs.block _ (Array.getElem?_eq_some_iff.1 HX.out).1 (ne_some' (by omega))).trans HX.out)
      generalize w14.setCells (w.heap.size + 1) 0 (tagC s) = W7 at HR5 HM5 HC5 HX5 ⊢
      clear gs
      refine hK.out _ _ (by exact row4 HX5.out) (fun hHeld => ?_)
      clear hK K
      try simp only [Act.put, List.setIfInBounds_toArray, List.set_cons_zero, List.set_cons_succ]
      refine wpAnyH_done (by kernel_rfl) ?_ _
      refine NoPanic.normal ?_
      clear hHeld
      show Exit.then _ _ Exit.normal _ W7
      go_wp2
      refine bodyPost_ret (v := tagV s) ?_ rfl ?_
      · exact results_cell_mid (p := 4) (ty := 25) rfl _ W7 (w.heap.size + 1) _ _ rfl HR5.out Tryz.underlying25 rfl (by simp [infoTag, tagC_len])
      · exact ⟨_, rfl, HC5.out, HM5.out, HNV.out⟩
    · have k2 : kd = 2 := by omega
      subst k2
      replace HDRW := Lib.hid (HDRW.out rfl)
      clear HSUM HMAC hw3 k0 k1
      go_upto_region 6 with (fail)
      refine wp_region_lit ?_
      refine wpList_plain rfl (fun K hK => ?_)
      go_simp
      refine hK _ _ ?_
      clear hK K
      refine wpList_plain rfl (fun K hK => ?_)
      go_simp
      refine hK _ _ ?_
      clear hK K
      refine wpList_plain rfl (fun K hK => ?_)
      go_simp
      refine hK _ _ ?_
      clear hK K
      clear c0 c1 c2 c3
      refine wpList_plain rfl (fun K hK => ?_)
      go_simp
      refine (HDRW.out W HW.out).mono ?_
      rintro e w14 ⟨av', rfl, hch, hrm, hof, hnv⟩
      dsimp only
      refine hK _ _ ?_
      clear hK K
      have HT := Lib.hid (hch.bt HW.out.tg HNE.out.1 (fun e => HNE.out.2 e.symm))
      have HM := Lib.hid hrm
      have HO := Lib.hid (hof _ _ HT.out HNE.out.2)
      have HCH := Lib.hid ((Rch.of HW.out.bel).trans hch)
      have HNV := Lib.hid hnv
      clear hch hrm hof hnv
      refine wpList_store_mid rfl 25 _ _ rfl (w.heap.size + 1) 0 (tagC s).toArray rfl rfl (by simpa [tagC_len] using HT.out.there 32 (Nat.le_refl _)) (by simp [infoTag, tagC_len]) (tagC_one _) ?_
      rw [List.toList_toArray]
      have HR5 := Lib.hid (World.rangeAt_setCells_same w14 (w.heap.size + 1) 0 (tagC s) (by rw [tagC_len]; exact HT.out.there 32 (Nat.le_refl _)))
      have gs := gr_setCells (hb := w.heap.size + 1) (tagC s) 0 w14
      have HM5 := Lib.hid (HM.out.gr gs HNE.out.1.symm HO.out)
      have HC5 := Lib.hid (HCH.out.new gs (by omega))
      generalize w14.setCells (w.heap.size + 1) 0 (tagC s) = W7 at HR5 HM5 HC5 ⊢
      clear gs
      show Exit.then _ _ Exit.normal _ W7
      go_wp2
      refine bodyPost_ret (v := tagV s) ?_ rfl ?_
      · exact results_cell_mid (p := 4) (ty := 25) rfl _ W7 (w.heap.size + 1) _ _ rfl HR5.out Tryz.underlying25 rfl (by simp [infoTag, tagC_len])
      · exact ⟨_, rfl, HC5.out, HM5.out, HNV.out⟩
end Go.Proofs.YtejknkgbkkdaiaaGreatDoor
