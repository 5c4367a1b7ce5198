/-
  The walk of TagsFresh.
-/
import Derived.Test.YtjflaeohkhmkaaaDoorFrd
import Derived.Deep.Cut
import Derived.Deep.CutRange
namespace Go.Proofs.YtjflaeohkhmkaaaDoor
open Go.RowKit
set_option linter.unusedVariables false
set_option linter.unusedSimpArgs false

set_option maxHeartbeats 4000000 in
set_option maxRecDepth 100000 in
theorem tagsFresh_walk (p : Option Addr) (m c : Nat) (X : Nat → Ask) (sp : Option Addr) (sm sc : Nat) (sd : Nat → BitVec 8) (x : Ask) (w : World) (mx : Int) (hmx : w.cell? ⟨mk_lays_ren.g 1, 0, none⟩ = some (.int .i64 mx)) (hm : m ≤ 5864062014634) (hr : AskRow w.heap.size w p m X) (hX : ∀ i, i < m → (X i).there w)
    (hsr : Reads w.heap.size w sp sm (fun j => .int .u8 (ub (sd j)))) (hsc : sm ≤ sc) (hscm : sc ≤ 140737488351232) (hsz : sp = none → sc = 0) (hx : x.there w) :
    Calls Tryd.prog 3 #[.slice p m c, .slice sp sm sc, x.val] w fun e w' => e = .returned (.bool true) ∧ Below w.heap.size w w' := by
  have HR := Lib.hid hr
  have HX := Lib.hid hX
  have HXX := Lib.hid hx
  have HMX := Lib.hid hmx
  clear hr hX hsr hx hsz hmx
  unfold Ask.val
  go_enter Tryd.func3, Tryd.ntmps3
  have HBX := Lib.hid (laid_at (W := w) (o := .cells #[.int .i64 x.what, .slice x.kp x.kn x.kc, .slice x.p x.m x.c, .int .i64 x.k] 26) rfl)
  have HB := Lib.hid ((Below.refl w.heap.size w).alloc (Nat.le_refl _) (.cells #[.int .i64 x.what, .slice x.kp x.kn x.kc, .slice x.p x.m x.c, .int .i64 x.k] 26))
  go_upto_region 1 with (fail)
  generalize w.alloc (.cells #[.int .i64 x.what, .slice x.kp x.kn x.kc, .slice x.p x.m x.c, .int .i64 x.k] 26) = V at HBX HB ⊢
  go_wp2_with fail
  refine (awake4 _).mono ?_
  rintro e w1 ⟨rfl, hb1⟩
  replace HBX := Lib.hid (laid_go HBX.out hb1)
  replace HB := Lib.hid (HB.out.trans (hb1.mono HB.out.size))
  clear hb1
  go_upto_region 3 with (fail)
  have hsm2 : sm ≤ 140737488351232 := by omega
  go_cut [29] from 20 to 29 (fun t wx => ∃ bb : Bool, t = .bool bb ∧ (bb = false → m + totA X m ≤ 400 ∧ sm ≤ 400 ∧ x.tot ≤ 400) ∧ Below w.heap.size w wx ∧ wx.heap[w.heap.size]? = some (.cells #[.int .i64 x.what, .slice x.kp x.kn x.kc, .slice x.p x.m x.c, .int .i64 x.k] 26 (0, 0)))
  case first =>
    refine wp_region_noPanic ?_
    refine wp_region_start (n := 10) (l := #[false, false, false, false, false, false, false, false, false, false]) (S := (fun W => W.cell? ⟨w.heap.size, 0, none⟩ = some (.int .i64 x.what) ∧ W.cell? ⟨w.heap.size, 1, none⟩ = some (.slice x.kp x.kn x.kc) ∧ W.cell? ⟨w.heap.size, 2, none⟩ = some (.slice x.p x.m x.c) ∧ W.cell? ⟨w.heap.size, 3, none⟩ = some (.int .i64 x.k))) (by kernel_rfl) rfl (by kernel_rfl) (by exact row4 HBX.out) (fun hHeld => ?_)
    replace HBX := Lib.hid (show w1.drew.heap[w.heap.size]? = some (.cells #[.int .i64 x.what, .slice x.kp x.kn x.kc, .slice x.p x.m x.c, .int .i64 x.k] 26 (0, 0)) from HBX.out)
    replace HB := Lib.hid HB.out.drew
    generalize w1.drew = V' at hHeld HBX HB ⊢
    refine take_to (i := 0) (d := some 20) (v := ?_) (l' := #[true, false, false, false, false, false, false, false, false, false]) rfl rfl (by kernel_rfl) (by kernel_rfl) (by kernel_rfl) (by kernel_rfl) (fun _ _ _ h => h) (Or.inl ⟨by rfl, ?_⟩) (by assumption) ?_; rotate_left; · (intro w' hSw; (try dsimp only at hSw); go_simp; (try with_reducible rfl))
    try simp only [Act.put, List.setIfInBounds_toArray, List.set_cons_zero, List.set_cons_succ]
    refine take_to (i := 2) (d := some 22) (v := ?_) (l' := #[true, false, true, false, false, false, false, false, false, false]) rfl rfl (by kernel_rfl) (by kernel_rfl) (by kernel_rfl) (by kernel_rfl) (fun _ _ _ h => h) (Or.inl ⟨by rfl, ?_⟩) (by assumption) ?_; rotate_left; · (intro w' hSw; (try dsimp only at hSw); go_simp; (try with_reducible rfl))
    try simp only [Act.put, List.setIfInBounds_toArray, List.set_cons_zero, List.set_cons_succ]
    refine take_to (i := 3) (d := some 23) (v := ?_) (l' := #[true, false, true, true, false, false, false, false, false, false]) rfl rfl (by kernel_rfl) (by kernel_rfl) (by kernel_rfl) (by kernel_rfl) (fun _ _ _ h => h) (Or.inl ⟨by rfl, ?_⟩) (by assumption) ?_; rotate_left; · (intro w' hSw; (try dsimp only at hSw); go_simp; (try with_reducible rfl))
    try simp only [Act.put, List.setIfInBounds_toArray, List.set_cons_zero, List.set_cons_succ]
    refine take_to (i := 5) (d := some 25) (v := ?_) (l' := #[true, false, true, true, false, true, false, false, false, false]) rfl rfl (by kernel_rfl) (by kernel_rfl) (by kernel_rfl) (by kernel_rfl) (fun _ _ _ h => h) (Or.inl ⟨by rfl, ?_⟩) (by assumption) ?_; rotate_left; · (intro w' hSw; (try dsimp only at hSw); go_simp; (try with_reducible rfl))
    try simp only [Act.put, List.setIfInBounds_toArray, List.set_cons_zero, List.set_cons_succ]
    refine two_to (i := 1) (j := 6) (l1 := #[true, true, true, true, false, true, false, false, false, false]) (l2 := #[true, false, true, true, false, true, true, false, false, false]) rfl rfl (by kernel_rfl) (by kernel_rfl) (by kernel_rfl) (fun K hK => ?_) (fun K hK => ?_)
    · skip
      go_simp
      refine (size04_any _ p m c X hm ((HR.out.below HB.out).mono HB.out.size) (fun i hi => ((HX.out i hi).fits.below HB.out).mono HB.out.size)).mono ?_
      rintro e w2 ⟨x1, rfl, hs1, hs1b, hb2⟩
      have HS1 := Lib.hid hs1
      replace HBX := Lib.hid (laid_go HBX.out hb2)
      try replace HQ := Lib.hid (laid_go HQ.out hb2)
      replace HB := Lib.hid (HB.out.trans (hb2.mono HB.out.size))
      clear hb2 hs1
      dsimp only
      refine hK.out _ _ (by exact row4 HBX.out) (fun hHeld => ?_)
      clear hK K
      try simp only [Act.put, List.setIfInBounds_toArray, List.set_cons_zero, List.set_cons_succ]
      refine take_to (i := 4) (d := some 24) (v := ?_) (l' := #[true, true, true, true, true, true, false, false, false, false]) rfl rfl (by kernel_rfl) (by kernel_rfl) (by kernel_rfl) (by kernel_rfl) (fun _ _ _ h => h) (Or.inl ⟨by rfl, ?_⟩) (by assumption) ?_; rotate_left; · (intro w' hSw; (try dsimp only at hSw); go_simp; (try with_reducible rfl))
      try simp only [Act.put, List.setIfInBounds_toArray, List.set_cons_zero, List.set_cons_succ]
      refine one_to (i := 6) (l' := #[true, true, true, true, true, true, true, false, false, false]) rfl (by kernel_rfl) (by kernel_rfl) (fun K hK => ?_)
      go_simp
      have HQ := Lib.hid (new_at HB.out (.cells #[.int .i64 x.what, .slice x.kp x.kn x.kc, .slice x.p x.m x.c, .int .i64 x.k] 26))
      replace HBX := Lib.hid (laid_old (o := .cells #[.int .i64 x.what, .slice x.kp x.kn x.kc, .slice x.p x.m x.c, .int .i64 x.k] 26) HBX.out)
      replace HB := Lib.hid (HB.out.alloc HB.out.size (.cells #[.int .i64 x.what, .slice x.kp x.kn x.kc, .slice x.p x.m x.c, .int .i64 x.k] 26))
      refine hK.out _ _ (by exact row4 HBX.out) (fun hHeld => ?_)
      clear hK K
      try simp only [Act.put, List.setIfInBounds_toArray, List.set_cons_zero, List.set_cons_succ]
      refine one_to (i := 7) (l' := #[true, true, true, true, true, true, true, true, false, false]) rfl (by kernel_rfl) (by kernel_rfl) (fun K hK => ?_)
      go_simp
      refine (size04_any _ _ 1 1 (fun _ => x) (by omega) (one_ask HQ.out) (fun _ _ => (HXX.out.fits.below HB.out).mono HB.out.size)).mono ?_
      rintro e w3 ⟨y1, rfl, hs2, hs2b, hb3⟩
      have HS2 := Lib.hid hs2
      replace HBX := Lib.hid (laid_go HBX.out hb3)
      replace HB := Lib.hid (HB.out.trans (hb3.mono HB.out.size))
      clear hb3 hs2 HQ
      dsimp only
      refine hK.out _ _ (by exact row4 HBX.out) (fun hHeld => ?_)
      clear hK K
      try simp only [Act.put, List.setIfInBounds_toArray, List.set_cons_zero, List.set_cons_succ]
      refine take_to (i := 8) (d := some 28) (v := ?_) (l' := #[true, true, true, true, true, true, true, true, true, false]) rfl rfl (by kernel_rfl) (by kernel_rfl) (by kernel_rfl) (by kernel_rfl) (fun _ _ _ h => h) (Or.inl ⟨by rfl, ?_⟩) (by assumption) ?_; rotate_left; · (intro w' hSw; (try dsimp only at hSw); go_simp; (try with_reducible rfl))
      try simp only [Act.put, List.setIfInBounds_toArray, List.set_cons_zero, List.set_cons_succ]
      refine take_to (i := 9) (d := some 29) (v := ?_) (l' := #[true, true, true, true, true, true, true, true, true, true]) rfl rfl (by kernel_rfl) (by kernel_rfl) (by kernel_rfl) (by kernel_rfl) (fun _ _ _ h => h) (Or.inl ⟨by rfl, ?_⟩) (by assumption) ?_; rotate_left; · (intro w' hSw; (try dsimp only at hSw); go_simp; (try with_reducible rfl))
      try simp only [Act.put, List.setIfInBounds_toArray, List.set_cons_zero, List.set_cons_succ]
      refine wpAnyH_done (by kernel_rfl) ?_ _
      refine NoPanic.normal ?_
      clear hHeld
      go_wp2_with fail
      go_meet
      exact ⟨_, rfl, fun h => sizes_of (wraps_of hs1b hsm2 hs2b (by simpa using h)) HS1.out HS2.out, HB.out, HBX.out⟩
    · skip
      go_simp
      have HQ := Lib.hid (new_at HB.out (.cells #[.int .i64 x.what, .slice x.kp x.kn x.kc, .slice x.p x.m x.c, .int .i64 x.k] 26))
      replace HBX := Lib.hid (laid_old (o := .cells #[.int .i64 x.what, .slice x.kp x.kn x.kc, .slice x.p x.m x.c, .int .i64 x.k] 26) HBX.out)
      replace HB := Lib.hid (HB.out.alloc HB.out.size (.cells #[.int .i64 x.what, .slice x.kp x.kn x.kc, .slice x.p x.m x.c, .int .i64 x.k] 26))
      refine hK.out _ _ (by exact row4 HBX.out) (fun hHeld => ?_)
      clear hK K
      try simp only [Act.put, List.setIfInBounds_toArray, List.set_cons_zero, List.set_cons_succ]
      refine one_to (i := 1) (l' := #[true, true, true, true, false, true, true, false, false, false]) rfl (by kernel_rfl) (by kernel_rfl) (fun K hK => ?_)
      go_simp
      refine (size04_any _ p m c X hm ((HR.out.below HB.out).mono HB.out.size) (fun i hi => ((HX.out i hi).fits.below HB.out).mono HB.out.size)).mono ?_
      rintro e w2 ⟨x1, rfl, hs1, hs1b, hb2⟩
      have HS1 := Lib.hid hs1
      replace HBX := Lib.hid (laid_go HBX.out hb2)
      try replace HQ := Lib.hid (laid_go HQ.out hb2)
      replace HB := Lib.hid (HB.out.trans (hb2.mono HB.out.size))
      clear hb2 hs1
      dsimp only
      refine hK.out _ _ (by exact row4 HBX.out) (fun hHeld => ?_)
      clear hK K
      try simp only [Act.put, List.setIfInBounds_toArray, List.set_cons_zero, List.set_cons_succ]
      refine take_to (i := 4) (d := some 24) (v := ?_) (l' := #[true, true, true, true, true, true, true, false, false, false]) rfl rfl (by kernel_rfl) (by kernel_rfl) (by kernel_rfl) (by kernel_rfl) (fun _ _ _ h => h) (Or.inl ⟨by rfl, ?_⟩) (by assumption) ?_; rotate_left; · (intro w' hSw; (try dsimp only at hSw); go_simp; (try with_reducible rfl))
      try simp only [Act.put, List.setIfInBounds_toArray, List.set_cons_zero, List.set_cons_succ]
      refine one_to (i := 7) (l' := #[true, true, true, true, true, true, true, true, false, false]) rfl (by kernel_rfl) (by kernel_rfl) (fun K hK => ?_)
      go_simp
      refine (size04_any _ _ 1 1 (fun _ => x) (by omega) (one_ask HQ.out) (fun _ _ => (HXX.out.fits.below HB.out).mono HB.out.size)).mono ?_
      rintro e w3 ⟨y1, rfl, hs2, hs2b, hb3⟩
      have HS2 := Lib.hid hs2
      replace HBX := Lib.hid (laid_go HBX.out hb3)
      replace HB := Lib.hid (HB.out.trans (hb3.mono HB.out.size))
      clear hb3 hs2 HQ
      dsimp only
      refine hK.out _ _ (by exact row4 HBX.out) (fun hHeld => ?_)
      clear hK K
      try simp only [Act.put, List.setIfInBounds_toArray, List.set_cons_zero, List.set_cons_succ]
      refine take_to (i := 8) (d := some 28) (v := ?_) (l' := #[true, true, true, true, true, true, true, true, true, false]) rfl rfl (by kernel_rfl) (by kernel_rfl) (by kernel_rfl) (by kernel_rfl) (fun _ _ _ h => h) (Or.inl ⟨by rfl, ?_⟩) (by assumption) ?_; rotate_left; · (intro w' hSw; (try dsimp only at hSw); go_simp; (try with_reducible rfl))
      try simp only [Act.put, List.setIfInBounds_toArray, List.set_cons_zero, List.set_cons_succ]
      refine take_to (i := 9) (d := some 29) (v := ?_) (l' := #[true, true, true, true, true, true, true, true, true, true]) rfl rfl (by kernel_rfl) (by kernel_rfl) (by kernel_rfl) (by kernel_rfl) (fun _ _ _ h => h) (Or.inl ⟨by rfl, ?_⟩) (by assumption) ?_; rotate_left; · (intro w' hSw; (try dsimp only at hSw); go_simp; (try with_reducible rfl))
      try simp only [Act.put, List.setIfInBounds_toArray, List.set_cons_zero, List.set_cons_succ]
      refine wpAnyH_done (by kernel_rfl) ?_ _
      refine NoPanic.normal ?_
      clear hHeld
      go_wp2_with fail
      go_meet
      exact ⟨_, rfl, fun h => sizes_of (wraps_of hs1b hsm2 hs2b (by simpa using h)) HS1.out HS2.out, HB.out, HBX.out⟩
  case rest =>
    obtain ⟨bb, rfl, hbb, hB1, hbx1⟩ := hcut
    clear HB HBX
    cases bb
    · obtain ⟨s1, s2, s3⟩ := hbb rfl
      have HB := Lib.hid hB1
      have HBX := Lib.hid hbx1
      clear hbb hB1 hbx1
      go_wp2_with fail
      refine (newT_any _ _).mono ?_
      rintro e w5 ⟨mb, B, rfl, hmb, hB5, hb5, hm5, hk5⟩
      go_wp2_with fail
      refine (newT_any _ _).mono ?_
      rintro e w6 ⟨ob, OB, rfl, hob, hOB6, hb6, hm6, hk6⟩
      have HF := Lib.hid (FS.new HB.out HBX.out hB5 hb5 hm5 hk5 hmb hOB6 hob hb6 hm6 hk6)
      clear hmb hB5 hb5 hm5 hk5 hob hOB6 hb6 hm6 hk6 HB HBX
      obtain ⟨d, hd⟩ : ∃ d : FD, d = ⟨x, mb, B, ob, OB, w6.heap.size⟩ := ⟨_, rfl⟩
      obtain ⟨rfl, rfl, rfl, rfl⟩ : mb = d.mb ∧ B = d.B ∧ ob = d.ob ∧ x = d.x := by subst hd; exact ⟨rfl, rfl, rfl, rfl⟩
      rw [← hd] at HF
      clear hd
      obtain ⟨th, hth⟩ : ∃ th : Nat → Thing, ∀ i, (X i).thing = th i := ⟨fun i => (X i).thing, fun _ => rfl⟩
      obtain ⟨G, hG⟩ : ∃ G : Nat → Nat → BitVec 8, ∀ i, G i = numT (numF th i) := ⟨_, fun _ => rfl⟩
      have HTH := Lib.hid hth
      have HG := Lib.hid hG
      have HFR := Lib.hid (show FR d w G 0 (.slice none 0 0) (askL th 0) (askL th 0) w6 from ⟨HF.out, nil_tags _ _ _⟩)
      clear hth hG HF
      have hm4 : m ≤ 400 := by omega
      go_wp2
      go_loopw [9, 10, 11] (fun ov nv iv wr => ∃ i : Nat, i ≤ m ∧ iv = .int .i64 (i : Int) ∧ nv = .int .i64 ((askL th i).length : Int) ∧ FR d w G i ov (askL th i) (askL th i) wr) (fun _ _ iv _ => m - (intOf iv).toNat)
      case atStart => exact ⟨0, Nat.zero_le _, rfl, rfl, HFR.out⟩
      case round =>
        obtain ⟨i, hi, rfl, rfl, hfr⟩ := hrel
        have HF := Lib.hid hfr
        clear hfr HFR
        by_cases hlt : i < m
        · rcases HR.out with h0 | ⟨b, off, rfl, hbb, hcc⟩
          · omega
          have HAT := Lib.hid (show ∀ W, Below w.heap.size w W → ∀ j, j < m → W.cell? ⟨b, off + j * 4, none⟩ = some (.int .i64 (X j).what) ∧ W.cell? ⟨b, off + j * 4 + 1, none⟩ = some (.slice (X j).kp (X j).kn (X j).kc) ∧ W.cell? ⟨b, off + j * 4 + 2, none⟩ = some (.slice (X j).p (X j).m (X j).c) ∧ W.cell? ⟨b, off + j * 4 + 3, none⟩ = some (.int .i64 (X j).k) from fun W hW j hj => by
            rcases HR.out.below hW with h0 | ⟨b', off', he, _, hc⟩
            · omega
            cases he
            exact hc j hj)
          have HLI := Lib.hid (show ∀ W, Below w.heap.size w W → ∀ j, j < m → (X j).lies W from fun W hW j hj => ((HX.out j hj).lies (by have := tot_le X m j hj; omega)).below hW)
          have HLN := Lib.hid (show ∀ j, j ≤ m → (askL th j).length ≤ 1000000000000 from fun j hj => by have := askL_le th j; omega)
          clear hcc
          obtain ⟨n, hn⟩ : ∃ n : Nat, (askL th i).length = n := ⟨_, rfl⟩
          have HN := Lib.hid hn
          rw [hn]
          clear hn
          go_upto_region 11 with (fail)
          obtain ⟨c0, c1, c2, c3⟩ := HAT.out _ HF.out.fs.bel i hlt
          refine wp_region_lit ?_
          refine wpList_plain rfl (fun K hK => ?_)
          go_simp
          refine hK _ _ ?_
          clear hK K
          refine wpList_plain rfl (fun K hK => ?_)
          go_simp
          refine hK _ _ ?_
          clear hK K
          refine wpList_plain rfl (fun K hK => ?_)
          go_simp
          refine hK _ _ ?_
          clear hK K
          refine wpList_plain rfl (fun K hK => ?_)
          go_simp
          refine hK _ _ ?_
          clear hK K
          refine wpList_plain rfl (fun K hK => ?_)
          go_simp
          refine hK _ _ ?_
          clear hK K
          clear c0 c1 c2 c3
          refine wpList_plain rfl (fun K hK => ?_)
          go_simp
          refine (FR.ask1 HF.out (X i) (HLI.out _ HF.out.fs.bel i hlt) (HLN.out i hi) (G i) (by rw [HG.out, HTH.out]; rfl)).mono ?_
          rintro e w8 ⟨rfl, hf8⟩
          dsimp only
          refine hK _ _ ?_
          clear hK K
          rw [HTH.out] at hf8
          replace HF := Lib.hid (show FR d w G i _ (askL th (i + 1)) (askL th i) w8 from hf8)
          clear hf8
          refine wpList_plain rfl (fun K hK => ?_)
          go_simp
          refine hK _ _ ?_
          clear hK K
          refine wpList_store_mid rfl 33 _ _ rfl w8.heap.size 0 (tagC (G i)).toArray rfl rfl (by simpa [tagC_len] using tag_there w8) (by simp [infoTag, tagC_len]) (tagC_one _) ?_
          rw [List.toList_toArray]
          obtain ⟨ht9, hb9⟩ := tag_store w8 (G i)
          show Exit.then _ _ Exit.normal _ ((w8.alloc (.cells (List.replicate 32 (Value.int .u8 0)).toArray 33)).setCells w8.heap.size 0 (tagC (G i)))
          generalize (w8.alloc (.cells (List.replicate 32 (Value.int .u8 0)).toArray 33)).setCells w8.heap.size 0 (tagC (G i)) = w9 at ht9 hb9 ⊢
          have HF2 := Lib.hid (show FT d w G i _ w8.heap.size (G i) (askL th (i + 1)) (askL th i) w9 from ⟨HF.out.go hb9, ht9, HF.out.fs.h0⟩)
          obtain ⟨T, hT⟩ : ∃ T, T = w8.heap.size := ⟨_, rfl⟩
          rw [← hT] at HF2 ⊢
          clear hb9 ht9 HF hT
          have HAL := Lib.hid (show ∀ k W, k < m → Below w.heap.size w W → Calls Tryd.prog 8 #[.agg #[.int .i64 (X k).what, .slice (X k).kp (X k).kn (X k).kc, .slice (X k).p (X k).m (X k).c, .int .i64 (X k).k], .agg #[.int .i64 (X i).what, .slice (X i).kp (X i).kn (X i).kc, .slice (X i).p (X i).m (X i).c, .int .i64 (X i).k]] W fun e w' => e = .returned (.bool (decide (th k = th i))) ∧ Below W.heap.size W w' from fun k W hk hW => by
            rw [← HTH.out, ← HTH.out]
            exact alike_any W (X k) (X i) (HLI.out W hW k hk) (HLI.out W hW i hlt))
          go_wp2
          go_loopw [13, 14] (fun fv kv wr => ∃ k : Nat, k ≤ i ∧ kv = .int .i64 (k : Int) ∧ fv = .bool (freshB th (th i) k) ∧ FT d w G i u9 T (G i) (askL th (i + 1)) (askL th i) wr) (fun _ kv _ => i - (intOf kv).toNat)
          case atStart => exact ⟨0, Nat.zero_le _, rfl, rfl, HF2.out⟩
          case round =>
            obtain ⟨k, hk, rfl, rfl, hft⟩ := hrel
            have HF := Lib.hid hft
            clear hft HF2
            by_cases hki : k < i
            · obtain ⟨g, cap, rfl, hg, _⟩ := own_tag HF.out.fr.own (by omega)
              obtain ⟨q, hq⟩ : ∃ q, decide (th k = th i) = q := ⟨_, rfl⟩
              have HQ := Lib.hid hq
              have he := eql_tags (G k) (G i)
              rw [show teq (G k) (G i) = q from by
                have h1 := numF_le th k
                have h2 := numF_le th i
                rw [HG.out, HG.out, teq_num (by unfold lim64; omega) (by unfold lim64; omega), ← hq]
                exact decide_eq_decide.2 (numF_eq th k i hki)] at he
              have hgd := guard_tag (G k) (G i)
              have hqq : (q != q) = false := by simp
              have hkm : k < m := by omega
              obtain ⟨f, hf⟩ : ∃ f, freshB th (th i) k = f := ⟨_, rfl⟩
              have HFB := Lib.hid hf
              rw [hf]
              clear hq hf
              go_upto_region 16 with (fail)
              refine wp_region_noPanic ?_
              refine wp_region_start (n := 16) (l := #[false, false, false, false, false, false, false, false, false, false, false, false, false, false, false, false]) (S := (fun W => (Below w.heap.size w W ∧ W.ownsRow d.b0 33 32 (.slice (some ⟨g, 0, none⟩) i cap) i (tagL G i)) ∧ BT W T 32 (G i))) (by kernel_rfl) rfl (by kernel_rfl) (by first | exact HF.out.loads | exact (HF.out.go (Below.refl _ _).drew).loads) (fun hHeld => ?_)
              replace HF := Lib.hid (HF.out.go (Below.refl _ _).drew)
              generalize World.drew _ = V2 at hHeld HF ⊢
              refine take_to (i := 0) (d := some 50) (v := ?_) (l' := #[true, false, false, false, false, false, false, false, false, false, false, false, false, false, false, false]) rfl rfl (by kernel_rfl) (by kernel_rfl) (by kernel_rfl) (by kernel_rfl) (fun _ _ _ h => h) (Or.inl ⟨by rfl, ?_⟩) (by assumption) ?_; rotate_left; · (intro w' hSw; (try dsimp only at hSw); go_simp; (try with_reducible rfl))
              try simp only [Act.put, List.setIfInBounds_toArray, List.set_cons_zero, List.set_cons_succ]
              refine take_to (i := 1) (d := some 51) (v := ?_) (l' := #[true, true, false, false, false, false, false, false, false, false, false, false, false, false, false, false]) rfl rfl (by kernel_rfl) (by kernel_rfl) (by kernel_rfl) (by kernel_rfl) (fun _ _ _ h => h) (Or.inl ⟨by rfl, ?_⟩) (by assumption) ?_; rotate_left; · (intro w' hSw; (try dsimp only at hSw); go_simp; (try with_reducible rfl))
              try simp only [Act.put, List.setIfInBounds_toArray, List.set_cons_zero, List.set_cons_succ]
              refine take_to (i := 2) (d := some 52) (v := ?_) (l' := #[true, true, true, false, false, false, false, false, false, false, false, false, false, false, false, false]) rfl rfl (by kernel_rfl) (by kernel_rfl) (by kernel_rfl) (by kernel_rfl) (fun _ _ _ h => h) (Or.inl ⟨by rfl, ?_⟩) (by assumption) ?_; rotate_left; · (intro w' hSw; (try dsimp only at hSw); go_simp; (try with_reducible rfl))
              try simp only [Act.put, List.setIfInBounds_toArray, List.set_cons_zero, List.set_cons_succ]
              refine take_to (i := 3) (d := some 53) (v := (tagV (G k))) (l' := #[true, true, true, true, false, false, false, false, false, false, false, false, false, false, false, false]) rfl rfl (by kernel_rfl) (by kernel_rfl) (by kernel_rfl) (by kernel_rfl) (fun _ _ _ h => h) ?_ (by assumption) ?_
              · exact tagAt_load hki (fun W h => h.1.2) (by rfl) rfl rfl
              try simp only [Act.put, List.setIfInBounds_toArray, List.set_cons_zero, List.set_cons_succ]
              refine take_to (i := 4) (d := some 54) (v := (tagV (G i))) (l' := #[true, true, true, true, true, false, false, false, false, false, false, false, false, false, false, false]) rfl rfl (by kernel_rfl) (by kernel_rfl) (by kernel_rfl) (by kernel_rfl) (fun _ _ _ h => h) ?_ (by assumption) ?_
              · exact tag_load' (fun W h => h.2) (by rfl) rfl rfl
              try simp only [Act.put, List.setIfInBounds_toArray, List.set_cons_zero, List.set_cons_succ]
              refine take_to (i := 5) (d := some 55) (v := ?_) (l' := #[true, true, true, true, true, true, false, false, false, false, false, false, false, false, false, false]) rfl rfl (by kernel_rfl) (by kernel_rfl) (by kernel_rfl) (by kernel_rfl) (fun _ _ _ h => h) (Or.inl ⟨by rfl, ?_⟩) (by assumption) ?_; rotate_left; · (intro w' hSw; (try dsimp only at hSw); go_simp; (try with_reducible rfl))
              try simp only [Act.put, List.setIfInBounds_toArray, List.set_cons_zero, List.set_cons_succ]
              refine take_to (i := 6) (d := some 56) (v := ?_) (l' := #[true, true, true, true, true, true, true, false, false, false, false, false, false, false, false, false]) rfl rfl (by kernel_rfl) (by kernel_rfl) (by kernel_rfl) (by kernel_rfl) (fun _ _ _ h => h) (Or.inl ⟨by rfl, ?_⟩) (by assumption) ?_; rotate_left; · (intro w' hSw; (try dsimp only at hSw); go_simp; (try with_reducible rfl))
              try simp only [Act.put, List.setIfInBounds_toArray, List.set_cons_zero, List.set_cons_succ]
              refine take_to (i := 7) (d := some 57) (v := ?_) (l' := #[true, true, true, true, true, true, true, true, false, false, false, false, false, false, false, false]) rfl rfl (by kernel_rfl) (by kernel_rfl) (by kernel_rfl) (by kernel_rfl) (fun _ _ _ h => h) (Or.inl ⟨by rfl, ?_⟩) (by assumption) ?_; rotate_left; · (intro w' hSw; (try dsimp only at hSw); go_simp; (try with_reducible rfl))
              try simp only [Act.put, List.setIfInBounds_toArray, List.set_cons_zero, List.set_cons_succ]
              refine take_to (i := 8) (d := some 58) (v := ?_) (l' := #[true, true, true, true, true, true, true, true, true, false, false, false, false, false, false, false]) rfl rfl (by kernel_rfl) (by kernel_rfl) (by kernel_rfl) (by kernel_rfl) (fun _ _ _ h => h) (Or.inl ⟨by rfl, ?_⟩) (by assumption) ?_; rotate_left; · (intro w' hSw; (try dsimp only at hSw); go_simp; (try with_reducible rfl))
              try simp only [Act.put, List.setIfInBounds_toArray, List.set_cons_zero, List.set_cons_succ]
              refine take_to (i := 9) (d := some 59) (v := (.agg #[.int .i64 (X k).what, .slice (X k).kp (X k).kn (X k).kc, .slice (X k).p (X k).m (X k).c, .int .i64 (X k).k])) (l' := #[true, true, true, true, true, true, true, true, true, true, false, false, false, false, false, false]) rfl rfl (by kernel_rfl) (by kernel_rfl) (by kernel_rfl) (by kernel_rfl) (fun _ _ _ h => h) ?_ (by assumption) ?_
              · exact ask_load (fun W h => HAT.out W h.1.1 k (by omega)) (by rfl) rfl rfl
              try simp only [Act.put, List.setIfInBounds_toArray, List.set_cons_zero, List.set_cons_succ]
              refine take_to (i := 10) (d := some 60) (v := ?_) (l' := #[true, true, true, true, true, true, true, true, true, true, true, false, false, false, false, false]) rfl rfl (by kernel_rfl) (by kernel_rfl) (by kernel_rfl) (by kernel_rfl) (fun _ _ _ h => h) (Or.inl ⟨by rfl, ?_⟩) (by assumption) ?_; rotate_left; · (intro w' hSw; (try dsimp only at hSw); go_simp; (try with_reducible rfl))
              try simp only [Act.put, List.setIfInBounds_toArray, List.set_cons_zero, List.set_cons_succ]
              refine take_to (i := 11) (d := some 61) (v := ?_) (l' := #[true, true, true, true, true, true, true, true, true, true, true, true, false, false, false, false]) rfl rfl (by kernel_rfl) (by kernel_rfl) (by kernel_rfl) (by kernel_rfl) (fun _ _ _ h => h) (Or.inl ⟨by rfl, ?_⟩) (by assumption) ?_; rotate_left; · (intro w' hSw; (try dsimp only at hSw); go_simp; (try with_reducible rfl))
              try simp only [Act.put, List.setIfInBounds_toArray, List.set_cons_zero, List.set_cons_succ]
              refine take_to (i := 12) (d := some 62) (v := ?_) (l' := #[true, true, true, true, true, true, true, true, true, true, true, true, true, false, false, false]) rfl rfl (by kernel_rfl) (by kernel_rfl) (by kernel_rfl) (by kernel_rfl) (fun _ _ _ h => h) (Or.inl ⟨by rfl, ?_⟩) (by assumption) ?_; rotate_left; · (intro w' hSw; (try dsimp only at hSw); go_simp; (try with_reducible rfl))
              try simp only [Act.put, List.setIfInBounds_toArray, List.set_cons_zero, List.set_cons_succ]
              refine take_to (i := 13) (d := some 63) (v := (.agg #[.int .i64 (X i).what, .slice (X i).kp (X i).kn (X i).kc, .slice (X i).p (X i).m (X i).c, .int .i64 (X i).k])) (l' := #[true, true, true, true, true, true, true, true, true, true, true, true, true, true, false, false]) rfl rfl (by kernel_rfl) (by kernel_rfl) (by kernel_rfl) (by kernel_rfl) (fun _ _ _ h => h) ?_ (by assumption) ?_
              · exact ask_load (fun W h => HAT.out W h.1.1 i (by omega)) (by rfl) rfl rfl
              try simp only [Act.put, List.setIfInBounds_toArray, List.set_cons_zero, List.set_cons_succ]
              refine one_to (i := 14) (l' := #[true, true, true, true, true, true, true, true, true, true, true, true, true, true, true, false]) rfl (by kernel_rfl) (by kernel_rfl) (fun K hK => ?_)
              go_simp
              refine (HAL.out k _ (by omega) HF.out.fr.fs.bel).mono ?_
              rw [HQ.out]
              rintro e w14 ⟨rfl, hb14⟩
              replace HF := Lib.hid (HF.out.go hb14)
              clear hb14
              dsimp only
              refine hK.out _ _ (by first | exact HF.out.loads | exact (HF.out.go (Below.refl _ _).drew).loads) (fun hHeld => ?_)
              clear hK K
              try simp only [Act.put, List.setIfInBounds_toArray, List.set_cons_zero, List.set_cons_succ]
              refine take_to (i := 15) (d := some 65) (v := ?_) (l' := #[true, true, true, true, true, true, true, true, true, true, true, true, true, true, true, true]) rfl rfl (by kernel_rfl) (by kernel_rfl) (by kernel_rfl) (by kernel_rfl) (fun _ _ _ h => h) (Or.inl ⟨by rfl, ?_⟩) (by assumption) ?_; rotate_left; · (intro w' hSw; (try dsimp only at hSw); go_simp; (try with_reducible rfl))
              try simp only [Act.put, List.setIfInBounds_toArray, List.set_cons_zero, List.set_cons_succ]
              refine wpAnyH_done (by kernel_rfl) ?_ _
              refine NoPanic.normal ?_
              clear hHeld
              go_upto_region 18 with (fail)
              cases f
              · skip
                refine wp_region_noPanic ?_
                refine wp_region_start (n := 14) (l := #[false, false, false, false, false, false, false, false, false, false, false, false, false, false]) (S := (fun W => (Below w.heap.size w W ∧ W.ownsRow d.b0 33 32 (.slice (some ⟨g, 0, none⟩) i cap) i (tagL G i)) ∧ BT W T 32 (G i))) (by kernel_rfl) rfl (by kernel_rfl) (by first | exact HF.out.loads | exact (HF.out.go (Below.refl _ _).drew).loads) (fun hHeld => ?_)
                replace HF := Lib.hid (HF.out.go (Below.refl _ _).drew)
                generalize World.drew _ = V2 at hHeld HF ⊢
                refine take_to (i := 0) (d := some 66) (v := ?_) (l' := #[true, false, false, false, false, false, false, false, false, false, false, false, false, false]) rfl rfl (by kernel_rfl) (by kernel_rfl) (by kernel_rfl) (by kernel_rfl) (fun _ _ _ h => h) (Or.inl ⟨by rfl, ?_⟩) (by assumption) ?_; rotate_left; · (intro w' hSw; (try dsimp only at hSw); go_simp; (try with_reducible rfl))
                try simp only [Act.put, List.setIfInBounds_toArray, List.set_cons_zero, List.set_cons_succ]
                refine take_to (i := 1) (d := some 67) (v := ?_) (l' := #[true, true, false, false, false, false, false, false, false, false, false, false, false, false]) rfl rfl (by kernel_rfl) (by kernel_rfl) (by kernel_rfl) (by kernel_rfl) (fun _ _ _ h => h) (Or.inl ⟨by rfl, ?_⟩) (by assumption) ?_; rotate_left; · (intro w' hSw; (try dsimp only at hSw); go_simp; (try with_reducible rfl))
                try simp only [Act.put, List.setIfInBounds_toArray, List.set_cons_zero, List.set_cons_succ]
                refine take_to (i := 2) (d := some 68) (v := undef) (l' := #[true, true, true, false, false, false, false, false, false, false, false, false, false, false]) rfl rfl (by kernel_rfl) (by kernel_rfl) (by kernel_rfl) (by kernel_rfl) (fun _ _ _ h => h) (Or.inr ⟨by rfl, rfl⟩) (by assumption) ?_
                try simp only [Act.put, List.setIfInBounds_toArray, List.set_cons_zero, List.set_cons_succ]
                refine take_to (i := 3) (d := some 69) (v := undef) (l' := #[true, true, true, true, false, false, false, false, false, false, false, false, false, false]) rfl rfl (by kernel_rfl) (by kernel_rfl) (by kernel_rfl) (by kernel_rfl) (fun _ _ _ h => h) (Or.inr ⟨by rfl, rfl⟩) (by assumption) ?_
                try simp only [Act.put, List.setIfInBounds_toArray, List.set_cons_zero, List.set_cons_succ]
                refine take_to (i := 4) (d := some 70) (v := undef) (l' := #[true, true, true, true, true, false, false, false, false, false, false, false, false, false]) rfl rfl (by kernel_rfl) (by kernel_rfl) (by kernel_rfl) (by kernel_rfl) (fun _ _ _ h => h) (Or.inr ⟨by rfl, rfl⟩) (by assumption) ?_
                try simp only [Act.put, List.setIfInBounds_toArray, List.set_cons_zero, List.set_cons_succ]
                refine take_to (i := 5) (d := some 71) (v := undef) (l' := #[true, true, true, true, true, true, false, false, false, false, false, false, false, false]) rfl rfl (by kernel_rfl) (by kernel_rfl) (by kernel_rfl) (by kernel_rfl) (fun _ _ _ h => h) (Or.inr ⟨by rfl, rfl⟩) (by assumption) ?_
                try simp only [Act.put, List.setIfInBounds_toArray, List.set_cons_zero, List.set_cons_succ]
                refine take_to (i := 6) (d := some 72) (v := undef) (l' := #[true, true, true, true, true, true, true, false, false, false, false, false, false, false]) rfl rfl (by kernel_rfl) (by kernel_rfl) (by kernel_rfl) (by kernel_rfl) (fun _ _ _ h => h) (Or.inr ⟨by rfl, rfl⟩) (by assumption) ?_
                try simp only [Act.put, List.setIfInBounds_toArray, List.set_cons_zero, List.set_cons_succ]
                refine take_to (i := 7) (d := some 73) (v := undef) (l' := #[true, true, true, true, true, true, true, true, false, false, false, false, false, false]) rfl rfl (by kernel_rfl) (by kernel_rfl) (by kernel_rfl) (by kernel_rfl) (fun _ _ _ h => h) (Or.inr ⟨by rfl, rfl⟩) (by assumption) ?_
                try simp only [Act.put, List.setIfInBounds_toArray, List.set_cons_zero, List.set_cons_succ]
                refine take_to (i := 8) (d := some 74) (v := undef) (l' := #[true, true, true, true, true, true, true, true, true, false, false, false, false, false]) rfl rfl (by kernel_rfl) (by kernel_rfl) (by kernel_rfl) (by kernel_rfl) (fun _ _ _ h => h) (Or.inr ⟨by rfl, rfl⟩) (by assumption) ?_
                try simp only [Act.put, List.setIfInBounds_toArray, List.set_cons_zero, List.set_cons_succ]
                refine take_to (i := 9) (d := some 75) (v := undef) (l' := #[true, true, true, true, true, true, true, true, true, true, false, false, false, false]) rfl rfl (by kernel_rfl) (by kernel_rfl) (by kernel_rfl) (by kernel_rfl) (fun _ _ _ h => h) (Or.inr ⟨by rfl, rfl⟩) (by assumption) ?_
                try simp only [Act.put, List.setIfInBounds_toArray, List.set_cons_zero, List.set_cons_succ]
                refine one_to (i := 10) (l' := #[true, true, true, true, true, true, true, true, true, true, true, false, false, false]) rfl (by kernel_rfl) (by kernel_rfl) (fun K hK => ?_)
                go_simp
                refine hK.out _ _ (by first | exact HF.out.loads | exact (HF.out.go (Below.refl _ _).drew).loads) (fun hHeld => ?_)
                clear hK K
                try simp only [Act.put, List.setIfInBounds_toArray, List.set_cons_zero, List.set_cons_succ]
                refine take_to (i := 11) (d := some 77) (v := undef) (l' := #[true, true, true, true, true, true, true, true, true, true, true, true, false, false]) rfl rfl (by kernel_rfl) (by kernel_rfl) (by kernel_rfl) (by kernel_rfl) (fun _ _ _ h => h) (Or.inr ⟨by rfl, rfl⟩) (by assumption) ?_
                try simp only [Act.put, List.setIfInBounds_toArray, List.set_cons_zero, List.set_cons_succ]
                refine take_to (i := 12) (d := some 78) (v := ?_) (l' := #[true, true, true, true, true, true, true, true, true, true, true, true, true, false]) rfl rfl (by kernel_rfl) (by kernel_rfl) (by kernel_rfl) (by kernel_rfl) (fun _ _ _ h => h) (Or.inl ⟨by rfl, ?_⟩) (by assumption) ?_; rotate_left; · (intro w' hSw; (try dsimp only at hSw); go_simp; (try with_reducible rfl))
                try simp only [Act.put, List.setIfInBounds_toArray, List.set_cons_zero, List.set_cons_succ]
                refine take_to (i := 13) (d := some 13) (v := ?_) (l' := #[true, true, true, true, true, true, true, true, true, true, true, true, true, true]) rfl rfl (by kernel_rfl) (by kernel_rfl) (by kernel_rfl) (by kernel_rfl) (fun _ _ _ h => h) (Or.inl ⟨by rfl, ?_⟩) (by assumption) ?_; rotate_left; · (intro w' hSw; (try dsimp only at hSw); go_simp; (try with_reducible rfl))
                try simp only [Act.put, List.setIfInBounds_toArray, List.set_cons_zero, List.set_cons_succ]
                refine wpAnyH_done (by kernel_rfl) ?_ _
                refine NoPanic.normal ?_
                clear hHeld
                go_wp2
                go_roundw
                case rel => exact ⟨k + 1, by omega, by go_num, by rw [freshB, HFB.out]; rfl, HF.out⟩
                case measure => simp [intOf]; omega
              · skip
                refine wp_region_noPanic ?_
                refine wp_region_start (n := 14) (l := #[false, false, false, false, false, false, false, false, false, false, false, false, false, false]) (S := (fun W => (Below w.heap.size w W ∧ W.ownsRow d.b0 33 32 (.slice (some ⟨g, 0, none⟩) i cap) i (tagL G i)) ∧ BT W T 32 (G i))) (by kernel_rfl) rfl (by kernel_rfl) (by first | exact HF.out.loads | exact (HF.out.go (Below.refl _ _).drew).loads) (fun hHeld => ?_)
                replace HF := Lib.hid (HF.out.go (Below.refl _ _).drew)
                generalize World.drew _ = V2 at hHeld HF ⊢
                refine take_to (i := 0) (d := some 66) (v := ?_) (l' := #[true, false, false, false, false, false, false, false, false, false, false, false, false, false]) rfl rfl (by kernel_rfl) (by kernel_rfl) (by kernel_rfl) (by kernel_rfl) (fun _ _ _ h => h) (Or.inl ⟨by rfl, ?_⟩) (by assumption) ?_; rotate_left; · (intro w' hSw; (try dsimp only at hSw); go_simp; (try with_reducible rfl))
                try simp only [Act.put, List.setIfInBounds_toArray, List.set_cons_zero, List.set_cons_succ]
                refine take_to (i := 1) (d := some 67) (v := ?_) (l' := #[true, true, false, false, false, false, false, false, false, false, false, false, false, false]) rfl rfl (by kernel_rfl) (by kernel_rfl) (by kernel_rfl) (by kernel_rfl) (fun _ _ _ h => h) (Or.inl ⟨by rfl, ?_⟩) (by assumption) ?_; rotate_left; · (intro w' hSw; (try dsimp only at hSw); go_simp; (try with_reducible rfl))
                try simp only [Act.put, List.setIfInBounds_toArray, List.set_cons_zero, List.set_cons_succ]
                refine take_to (i := 2) (d := some 68) (v := ?_) (l' := #[true, true, true, false, false, false, false, false, false, false, false, false, false, false]) rfl rfl (by kernel_rfl) (by kernel_rfl) (by kernel_rfl) (by kernel_rfl) (fun _ _ _ h => h) (Or.inl ⟨by rfl, ?_⟩) (by assumption) ?_; rotate_left; · (intro w' hSw; (try dsimp only at hSw); go_simp; (try with_reducible rfl))
                try simp only [Act.put, List.setIfInBounds_toArray, List.set_cons_zero, List.set_cons_succ]
                refine take_to (i := 3) (d := some 69) (v := ?_) (l' := #[true, true, true, true, false, false, false, false, false, false, false, false, false, false]) rfl rfl (by kernel_rfl) (by kernel_rfl) (by kernel_rfl) (by kernel_rfl) (fun _ _ _ h => h) (Or.inl ⟨by rfl, ?_⟩) (by assumption) ?_; rotate_left; · (intro w' hSw; (try dsimp only at hSw); go_simp; (try with_reducible rfl))
                try simp only [Act.put, List.setIfInBounds_toArray, List.set_cons_zero, List.set_cons_succ]
                refine take_to (i := 4) (d := some 70) (v := ?_) (l' := #[true, true, true, true, true, false, false, false, false, false, false, false, false, false]) rfl rfl (by kernel_rfl) (by kernel_rfl) (by kernel_rfl) (by kernel_rfl) (fun _ _ _ h => h) (Or.inl ⟨by rfl, ?_⟩) (by assumption) ?_; rotate_left; · (intro w' hSw; (try dsimp only at hSw); go_simp; (try with_reducible rfl))
                try simp only [Act.put, List.setIfInBounds_toArray, List.set_cons_zero, List.set_cons_succ]
                refine take_to (i := 5) (d := some 71) (v := (.agg #[.int .i64 (X k).what, .slice (X k).kp (X k).kn (X k).kc, .slice (X k).p (X k).m (X k).c, .int .i64 (X k).k])) (l' := #[true, true, true, true, true, true, false, false, false, false, false, false, false, false]) rfl rfl (by kernel_rfl) (by kernel_rfl) (by kernel_rfl) (by kernel_rfl) (fun _ _ _ h => h) ?_ (by assumption) ?_
                · exact ask_load (fun W h => HAT.out W h.1.1 k (by omega)) (by rfl) rfl rfl
                try simp only [Act.put, List.setIfInBounds_toArray, List.set_cons_zero, List.set_cons_succ]
                refine take_to (i := 6) (d := some 72) (v := ?_) (l' := #[true, true, true, true, true, true, true, false, false, false, false, false, false, false]) rfl rfl (by kernel_rfl) (by kernel_rfl) (by kernel_rfl) (by kernel_rfl) (fun _ _ _ h => h) (Or.inl ⟨by rfl, ?_⟩) (by assumption) ?_; rotate_left; · (intro w' hSw; (try dsimp only at hSw); go_simp; (try with_reducible rfl))
                try simp only [Act.put, List.setIfInBounds_toArray, List.set_cons_zero, List.set_cons_succ]
                refine take_to (i := 7) (d := some 73) (v := ?_) (l' := #[true, true, true, true, true, true, true, true, false, false, false, false, false, false]) rfl rfl (by kernel_rfl) (by kernel_rfl) (by kernel_rfl) (by kernel_rfl) (fun _ _ _ h => h) (Or.inl ⟨by rfl, ?_⟩) (by assumption) ?_; rotate_left; · (intro w' hSw; (try dsimp only at hSw); go_simp; (try with_reducible rfl))
                try simp only [Act.put, List.setIfInBounds_toArray, List.set_cons_zero, List.set_cons_succ]
                refine take_to (i := 8) (d := some 74) (v := ?_) (l' := #[true, true, true, true, true, true, true, true, true, false, false, false, false, false]) rfl rfl (by kernel_rfl) (by kernel_rfl) (by kernel_rfl) (by kernel_rfl) (fun _ _ _ h => h) (Or.inl ⟨by rfl, ?_⟩) (by assumption) ?_; rotate_left; · (intro w' hSw; (try dsimp only at hSw); go_simp; (try with_reducible rfl))
                try simp only [Act.put, List.setIfInBounds_toArray, List.set_cons_zero, List.set_cons_succ]
                refine take_to (i := 9) (d := some 75) (v := (.agg #[.int .i64 (X i).what, .slice (X i).kp (X i).kn (X i).kc, .slice (X i).p (X i).m (X i).c, .int .i64 (X i).k])) (l' := #[true, true, true, true, true, true, true, true, true, true, false, false, false, false]) rfl rfl (by kernel_rfl) (by kernel_rfl) (by kernel_rfl) (by kernel_rfl) (fun _ _ _ h => h) ?_ (by assumption) ?_
                · exact ask_load (fun W h => HAT.out W h.1.1 i (by omega)) (by rfl) rfl rfl
                try simp only [Act.put, List.setIfInBounds_toArray, List.set_cons_zero, List.set_cons_succ]
                refine one_to (i := 10) (l' := #[true, true, true, true, true, true, true, true, true, true, true, false, false, false]) rfl (by kernel_rfl) (by kernel_rfl) (fun K hK => ?_)
                go_simp
                refine (HAL.out k _ (by omega) HF.out.fr.fs.bel).mono ?_
                rw [HQ.out]
                rintro e w14 ⟨rfl, hb14⟩
                replace HF := Lib.hid (HF.out.go hb14)
                clear hb14
                dsimp only
                refine hK.out _ _ (by first | exact HF.out.loads | exact (HF.out.go (Below.refl _ _).drew).loads) (fun hHeld => ?_)
                clear hK K
                try simp only [Act.put, List.setIfInBounds_toArray, List.set_cons_zero, List.set_cons_succ]
                refine take_to (i := 11) (d := some 77) (v := ?_) (l' := #[true, true, true, true, true, true, true, true, true, true, true, true, false, false]) rfl rfl (by kernel_rfl) (by kernel_rfl) (by kernel_rfl) (by kernel_rfl) (fun _ _ _ h => h) (Or.inl ⟨by rfl, ?_⟩) (by assumption) ?_; rotate_left; · (intro w' hSw; (try dsimp only at hSw); go_simp; (try with_reducible rfl))
                try simp only [Act.put, List.setIfInBounds_toArray, List.set_cons_zero, List.set_cons_succ]
                refine take_to (i := 12) (d := some 78) (v := ?_) (l' := #[true, true, true, true, true, true, true, true, true, true, true, true, true, false]) rfl rfl (by kernel_rfl) (by kernel_rfl) (by kernel_rfl) (by kernel_rfl) (fun _ _ _ h => h) (Or.inl ⟨by rfl, ?_⟩) (by assumption) ?_; rotate_left; · (intro w' hSw; (try dsimp only at hSw); go_simp; (try with_reducible rfl))
                try simp only [Act.put, List.setIfInBounds_toArray, List.set_cons_zero, List.set_cons_succ]
                refine take_to (i := 13) (d := some 13) (v := ?_) (l' := #[true, true, true, true, true, true, true, true, true, true, true, true, true, true]) rfl rfl (by kernel_rfl) (by kernel_rfl) (by kernel_rfl) (by kernel_rfl) (fun _ _ _ h => h) (Or.inl ⟨by rfl, ?_⟩) (by assumption) ?_; rotate_left; · (intro w' hSw; (try dsimp only at hSw); go_simp; (try with_reducible rfl))
                try simp only [Act.put, List.setIfInBounds_toArray, List.set_cons_zero, List.set_cons_succ]
                refine wpAnyH_done (by kernel_rfl) ?_ _
                refine NoPanic.normal ?_
                clear hHeld
                go_wp2
                go_roundw
                case rel => exact ⟨k + 1, by omega, by go_num, by rw [freshB, HFB.out, HQ.out]; rfl, HF.out⟩
                case measure => simp [intOf]; omega
            · have hki2 : k = i := by omega
              subst hki2
              obtain ⟨N, hN⟩ : ∃ N : Nat, (askL th (k + 1)).length = N := ⟨_, rfl⟩
              have HNN := Lib.hid hN
              obtain ⟨f, hf⟩ : ∃ f, freshB th (th k) k = f := ⟨_, rfl⟩
              have hfn : N = n + if f then 1 else 0 := by rw [← hN, askL_len, HN.out, hf]
              have HFN := Lib.hid hfn
              rw [hf]
              clear hfn hN hf
              go_upto_if 79 with (fail)
              go_cut [10] from 80 to 81 (fun v wx => v = .int .i64 (N : Int) ∧ FT d w G k u9 T (G k) (askL th (k + 1)) (askL th k) wx)
              case first =>
                cases f
                · go_wp2
                  go_meet
                  exact ⟨by rw [HFN.out]; rfl, HF.out⟩
                · have hn4 : n ≤ 400 := by rw [← HN.out]; exact Nat.le_trans (askL_le th k) (by omega)
                  go_wp2
                  go_meet
                  exact ⟨by rw [HFN.out, if_pos trivial]; rfl, HF.out⟩
              case rest =>
                obtain ⟨rfl, hft⟩ := hcut
                clear HF HFN
                have HF := Lib.hid hft
                clear hft
                have he := neq_tag (G k)
                have hgd := guard_tag (G k) (G k)
                have hNN : ((N : Int) != (N : Int)) = false := by simp
                have HTB := Lib.hid (show toldB (askL th (k + 1)).length (G k) = true from by
                  have h1 := numF_le th k
                  rw [HG.out]
                  exact toldB_num _ _ (numF_lt th k) (by unfold lim64; omega))
                have HMC := Lib.hid (show ∀ W, Below w.heap.size w W → W.cell? ⟨mk_lays_ren.g 1, 0, none⟩ = some (.int .i64 mx) from fun W hW => (hW.cell (p := ⟨mk_lays_ren.g 1, 0, none⟩) (block_lt_of_cell HMX.out)).trans HMX.out)
                go_upto_region 21 with (fail)
                refine wp_region_noPanic ?_
                refine wp_region_start (n := 25) (l := #[false, false, false, false, false, false, false, false, false, false, false, false, false, false, false, false, false, false, false, false, false, false, false, false, false]) (S := (fun W => (Below w.heap.size w W ∧ W.ownsRow d.b0 33 32 u9 k (tagL G k)) ∧ BT W T 32 (G k))) (by kernel_rfl) rfl (by kernel_rfl) (by first | exact HF.out.loads | exact (HF.out.go (Below.refl _ _).drew).loads) (fun hHeld => ?_)
                replace HF := Lib.hid (HF.out.go (Below.refl _ _).drew)
                generalize World.drew _ = V2 at hHeld HF ⊢
                refine take_to (i := 0) (d := some 82) (v := ?_) (l' := #[true, false, false, false, false, false, false, false, false, false, false, false, false, false, false, false, false, false, false, false, false, false, false, false, false]) rfl rfl (by kernel_rfl) (by kernel_rfl) (by kernel_rfl) (by kernel_rfl) (fun _ _ _ h => h) (Or.inl ⟨by rfl, ?_⟩) (by assumption) ?_; rotate_left; · (intro w' hSw; (try dsimp only at hSw); go_simp; (try with_reducible rfl))
                try simp only [Act.put, List.setIfInBounds_toArray, List.set_cons_zero, List.set_cons_succ]
                refine take_to (i := 1) (d := some 83) (v := ?_) (l' := #[true, true, false, false, false, false, false, false, false, false, false, false, false, false, false, false, false, false, false, false, false, false, false, false, false]) rfl rfl (by kernel_rfl) (by kernel_rfl) (by kernel_rfl) (by kernel_rfl) (fun _ _ _ h => h) (Or.inl ⟨by rfl, ?_⟩) (by assumption) ?_; rotate_left; · (intro w' hSw; (try dsimp only at hSw); go_simp; (try with_reducible rfl))
                try simp only [Act.put, List.setIfInBounds_toArray, List.set_cons_zero, List.set_cons_succ]
                refine take_to (i := 2) (d := some 84) (v := ?_) (l' := #[true, true, true, false, false, false, false, false, false, false, false, false, false, false, false, false, false, false, false, false, false, false, false, false, false]) rfl rfl (by kernel_rfl) (by kernel_rfl) (by kernel_rfl) (by kernel_rfl) (fun _ _ _ h => h) (Or.inl ⟨by rfl, ?_⟩) (by assumption) ?_; rotate_left; · (intro w' hSw; (try dsimp only at hSw); go_simp; (try with_reducible rfl))
                try simp only [Act.put, List.setIfInBounds_toArray, List.set_cons_zero, List.set_cons_succ]
                refine take_to (i := 3) (d := some 85) (v := ?_) (l' := #[true, true, true, true, false, false, false, false, false, false, false, false, false, false, false, false, false, false, false, false, false, false, false, false, false]) rfl rfl (by kernel_rfl) (by kernel_rfl) (by kernel_rfl) (by kernel_rfl) (fun _ _ _ h => h) (Or.inl ⟨by rfl, ?_⟩) (by assumption) ?_; rotate_left; · (intro w' hSw; (try dsimp only at hSw); go_simp; (try with_reducible rfl))
                try simp only [Act.put, List.setIfInBounds_toArray, List.set_cons_zero, List.set_cons_succ]
                refine take_to (i := 4) (d := some 86) (v := (.agg #[.int .i64 (X k).what, .slice (X k).kp (X k).kn (X k).kc, .slice (X k).p (X k).m (X k).c, .int .i64 (X k).k])) (l' := #[true, true, true, true, true, false, false, false, false, false, false, false, false, false, false, false, false, false, false, false, false, false, false, false, false]) rfl rfl (by kernel_rfl) (by kernel_rfl) (by kernel_rfl) (by kernel_rfl) (fun _ _ _ h => h) ?_ (by assumption) ?_
                · exact ask_load (fun W h => HAT.out W h.1.1 k (by omega)) (by rfl) rfl rfl
                try simp only [Act.put, List.setIfInBounds_toArray, List.set_cons_zero, List.set_cons_succ]
                refine take_to (i := 6) (d := some 88) (v := (tagV (G k))) (l' := #[true, true, true, true, true, false, true, false, false, false, false, false, false, false, false, false, false, false, false, false, false, false, false, false, false]) rfl rfl (by kernel_rfl) (by kernel_rfl) (by kernel_rfl) (by kernel_rfl) (fun _ _ _ h => h) ?_ (by assumption) ?_
                · exact tag_load' (fun W h => h.2) (by rfl) rfl rfl
                try simp only [Act.put, List.setIfInBounds_toArray, List.set_cons_zero, List.set_cons_succ]
                refine one_to (i := 5) (l' := #[true, true, true, true, true, true, true, false, false, false, false, false, false, false, false, false, false, false, false, false, false, false, false, false, false]) rfl (by kernel_rfl) (by kernel_rfl) (fun K hK => ?_)
                go_simp
                refine (FT.ask2 HF.out (X k) (HLI.out _ HF.out.fr.fs.bel k hlt) (HLN.out k hi) (G k) (by rw [HG.out, HTH.out]; rfl)).mono ?_
                rintro e w14 ⟨rfl, hf14⟩
                rw [HTH.out] at hf14
                replace HF := Lib.hid (show FT d w G k u9 T (G k) (askL th (k + 1)) (askL th (k + 1)) w14 from hf14)
                clear hf14
                dsimp only
                refine hK.out _ _ (by first | exact HF.out.loads | exact (HF.out.go (Below.refl _ _).drew).loads) (fun hHeld => ?_)
                clear hK K
                try simp only [Act.put, List.setIfInBounds_toArray, List.set_cons_zero, List.set_cons_succ]
                refine take_to (i := 7) (d := some 89) (v := ?_) (l' := #[true, true, true, true, true, true, true, true, false, false, false, false, false, false, false, false, false, false, false, false, false, false, false, false, false]) rfl rfl (by kernel_rfl) (by kernel_rfl) (by kernel_rfl) (by kernel_rfl) (fun _ _ _ h => h) (Or.inl ⟨by rfl, ?_⟩) (by assumption) ?_; rotate_left; · (intro w' hSw; (try dsimp only at hSw); go_simp; (try with_reducible rfl))
                try simp only [Act.put, List.setIfInBounds_toArray, List.set_cons_zero, List.set_cons_succ]
                refine take_to (i := 8) (d := some 90) (v := ?_) (l' := #[true, true, true, true, true, true, true, true, true, false, false, false, false, false, false, false, false, false, false, false, false, false, false, false, false]) rfl rfl (by kernel_rfl) (by kernel_rfl) (by kernel_rfl) (by kernel_rfl) (fun _ _ _ h => h) (Or.inl ⟨by rfl, ?_⟩) (by assumption) ?_; rotate_left; · (intro w' hSw; (try dsimp only at hSw); go_simp; (try with_reducible rfl))
                try simp only [Act.put, List.setIfInBounds_toArray, List.set_cons_zero, List.set_cons_succ]
                refine take_to (i := 9) (d := some 91) (v := ?_) (l' := #[true, true, true, true, true, true, true, true, true, true, false, false, false, false, false, false, false, false, false, false, false, false, false, false, false]) rfl rfl (by kernel_rfl) (by kernel_rfl) (by kernel_rfl) (by kernel_rfl) (fun _ _ _ h => h) (Or.inl ⟨by rfl, ?_⟩) (by assumption) ?_; rotate_left; · (intro w' hSw; (try dsimp only at hSw); go_simp; (try with_reducible rfl))
                try simp only [Act.put, List.setIfInBounds_toArray, List.set_cons_zero, List.set_cons_succ]
                refine take_to (i := 10) (d := some 92) (v := (tagV (G k))) (l' := #[true, true, true, true, true, true, true, true, true, true, true, false, false, false, false, false, false, false, false, false, false, false, false, false, false]) rfl rfl (by kernel_rfl) (by kernel_rfl) (by kernel_rfl) (by kernel_rfl) (fun _ _ _ h => h) ?_ (by assumption) ?_
                · exact tag_load' (fun W h => h.2) (by rfl) rfl rfl
                try simp only [Act.put, List.setIfInBounds_toArray, List.set_cons_zero, List.set_cons_succ]
                refine one_to (i := 11) (l' := #[true, true, true, true, true, true, true, true, true, true, true, true, false, false, false, false, false, false, false, false, false, false, false, false, false]) rfl (by kernel_rfl) (by kernel_rfl) (fun K hK => ?_)
                go_simp
                refine (toldM_any _ d.mb d.B false (.slice none 0 0) (askL th (k + 1)) (G k) HF.out.fr.fs.m1 HF.out.fr.fs.k1 (HLN.out _ (by omega))).mono ?_
                rw [HTB.out]
                rintro e w14 ⟨rfl, hb14⟩
                replace HF := Lib.hid (HF.out.go hb14)
                clear hb14
                dsimp only
                refine hK.out _ _ (by first | exact HF.out.loads | exact (HF.out.go (Below.refl _ _).drew).loads) (fun hHeld => ?_)
                clear hK K
                try simp only [Act.put, List.setIfInBounds_toArray, List.set_cons_zero, List.set_cons_succ]
                refine take_to (i := 12) (d := some 94) (v := ?_) (l' := #[true, true, true, true, true, true, true, true, true, true, true, true, true, false, false, false, false, false, false, false, false, false, false, false, false]) rfl rfl (by kernel_rfl) (by kernel_rfl) (by kernel_rfl) (by kernel_rfl) (fun _ _ _ h => h) (Or.inl ⟨by rfl, ?_⟩) (by assumption) ?_; rotate_left; · (intro w' hSw; (try dsimp only at hSw); go_simp; (try with_reducible rfl))
                try simp only [Act.put, List.setIfInBounds_toArray, List.set_cons_zero, List.set_cons_succ]
                refine take_to (i := 13) (d := some 95) (v := ?_) (l' := #[true, true, true, true, true, true, true, true, true, true, true, true, true, true, false, false, false, false, false, false, false, false, false, false, false]) rfl rfl (by kernel_rfl) (by kernel_rfl) (by kernel_rfl) (by kernel_rfl) (fun _ _ _ h => h) (Or.inl ⟨by rfl, ?_⟩) (by assumption) ?_; rotate_left; · (intro w' hSw; (try dsimp only at hSw); go_simp; (try with_reducible rfl))
                try simp only [Act.put, List.setIfInBounds_toArray, List.set_cons_zero, List.set_cons_succ]
                refine take_to (i := 14) (d := some 96) (v := ?_) (l' := #[true, true, true, true, true, true, true, true, true, true, true, true, true, true, true, false, false, false, false, false, false, false, false, false, false]) rfl rfl (by kernel_rfl) (by kernel_rfl) (by kernel_rfl) (by kernel_rfl) (fun _ _ _ h => h) (Or.inl ⟨by rfl, ?_⟩) (by assumption) ?_; rotate_left; · (intro w' hSw; (try dsimp only at hSw); go_simp; (try with_reducible rfl))
                try simp only [Act.put, List.setIfInBounds_toArray, List.set_cons_zero, List.set_cons_succ]
                refine take_to (i := 15) (d := some 97) (v := ?_) (l' := #[true, true, true, true, true, true, true, true, true, true, true, true, true, true, true, true, false, false, false, false, false, false, false, false, false]) rfl rfl (by kernel_rfl) (by kernel_rfl) (by kernel_rfl) (by kernel_rfl) (fun _ _ _ h => h) (Or.inl ⟨by rfl, ?_⟩) (by assumption) ?_; rotate_left; · (intro w' hSw; (try dsimp only at hSw); go_simp; (try with_reducible rfl))
                try simp only [Act.put, List.setIfInBounds_toArray, List.set_cons_zero, List.set_cons_succ]
                refine one_to (i := 16) (l' := #[true, true, true, true, true, true, true, true, true, true, true, true, true, true, true, true, true, false, false, false, false, false, false, false, false]) rfl (by kernel_rfl) (by kernel_rfl) (fun K hK => ?_)
                go_simp
                refine (mark_any T (numF th k) mx _ (by rw [← HG.out]; exact HF.out.tg) (HMC.out _ HF.out.fr.fs.bel)).mono ?_
                rintro e w14 ⟨rfl, hb14⟩
                replace HF := Lib.hid (HF.out.go hb14)
                clear hb14
                dsimp only
                refine hK.out _ _ (by first | exact HF.out.loads | exact (HF.out.go (Below.refl _ _).drew).loads) (fun hHeld => ?_)
                clear hK K
                try simp only [Act.put, List.setIfInBounds_toArray, List.set_cons_zero, List.set_cons_succ]
                refine take_to (i := 17) (d := some 99) (v := ?_) (l' := #[true, true, true, true, true, true, true, true, true, true, true, true, true, true, true, true, true, true, false, false, false, false, false, false, false]) rfl rfl (by kernel_rfl) (by kernel_rfl) (by kernel_rfl) (by kernel_rfl) (fun _ _ _ h => h) (Or.inl ⟨by rfl, ?_⟩) (by assumption) ?_; rotate_left; · (intro w' hSw; (try dsimp only at hSw); go_simp; (try with_reducible rfl))
                try simp only [Act.put, List.setIfInBounds_toArray, List.set_cons_zero, List.set_cons_succ]
                refine take_to (i := 18) (d := some 100) (v := ?_) (l' := #[true, true, true, true, true, true, true, true, true, true, true, true, true, true, true, true, true, true, true, false, false, false, false, false, false]) rfl rfl (by kernel_rfl) (by kernel_rfl) (by kernel_rfl) (by kernel_rfl) (fun _ _ _ h => h) (Or.inl ⟨by rfl, ?_⟩) (by assumption) ?_; rotate_left; · (intro w' hSw; (try dsimp only at hSw); go_simp; (try with_reducible rfl))
                try simp only [Act.put, List.setIfInBounds_toArray, List.set_cons_zero, List.set_cons_succ]
                refine take_to (i := 19) (d := some 101) (v := ?_) (l' := #[true, true, true, true, true, true, true, true, true, true, true, true, true, true, true, true, true, true, true, true, false, false, false, false, false]) rfl rfl (by kernel_rfl) (by kernel_rfl) (by kernel_rfl) (by kernel_rfl) (fun _ _ _ h => h) (Or.inl ⟨by rfl, ?_⟩) (by assumption) ?_; rotate_left; · (intro w' hSw; (try dsimp only at hSw); go_simp; (try with_reducible rfl))
                try simp only [Act.put, List.setIfInBounds_toArray, List.set_cons_zero, List.set_cons_succ]
                refine take_to (i := 20) (d := some 102) (v := ?_) (l' := #[true, true, true, true, true, true, true, true, true, true, true, true, true, true, true, true, true, true, true, true, true, false, false, false, false]) rfl rfl (by kernel_rfl) (by kernel_rfl) (by kernel_rfl) (by kernel_rfl) (fun _ _ _ h => h) (Or.inl ⟨by rfl, ?_⟩) (by assumption) ?_; rotate_left; · (intro w' hSw; (try dsimp only at hSw); go_simp; (try with_reducible rfl))
                try simp only [Act.put, List.setIfInBounds_toArray, List.set_cons_zero, List.set_cons_succ]
                refine take_to (i := 22) (d := some 104) (v := ?_) (l' := #[true, true, true, true, true, true, true, true, true, true, true, true, true, true, true, true, true, true, true, true, true, false, true, false, false]) rfl rfl (by kernel_rfl) (by kernel_rfl) (by kernel_rfl) (by kernel_rfl) (fun _ _ _ h => h) (Or.inl ⟨by rfl, ?_⟩) (by assumption) ?_; rotate_left; · (intro w' hSw; (try dsimp only at hSw); go_simp; (try with_reducible rfl))
                try simp only [Act.put, List.setIfInBounds_toArray, List.set_cons_zero, List.set_cons_succ]
                refine one_to (i := 21) (l' := #[true, true, true, true, true, true, true, true, true, true, true, true, true, true, true, true, true, true, true, true, true, true, true, false, false]) rfl (by kernel_rfl) (by kernel_rfl) (fun K hK => ?_)
                go_simp
                refine (lenM_any _ d.mb d.B false (.slice none 0 0) (askL th (k + 1)) HF.out.fr.fs.m1 HF.out.fr.fs.k1).mono ?_
                rw [HNN.out]
                rintro e w14 ⟨rfl, hb14⟩
                replace HF := Lib.hid (HF.out.go hb14)
                clear hb14
                dsimp only
                refine hK.out _ _ (by first | exact HF.out.loads | exact (HF.out.go (Below.refl _ _).drew).loads) (fun hHeld => ?_)
                clear hK K
                try simp only [Act.put, List.setIfInBounds_toArray, List.set_cons_zero, List.set_cons_succ]
                refine take_to (i := 23) (d := some 105) (v := ?_) (l' := #[true, true, true, true, true, true, true, true, true, true, true, true, true, true, true, true, true, true, true, true, true, true, true, true, false]) rfl rfl (by kernel_rfl) (by kernel_rfl) (by kernel_rfl) (by kernel_rfl) (fun _ _ _ h => h) (Or.inl ⟨by rfl, ?_⟩) (by assumption) ?_; rotate_left; · (intro w' hSw; (try dsimp only at hSw); go_simp; (try with_reducible rfl))
                try simp only [Act.put, List.setIfInBounds_toArray, List.set_cons_zero, List.set_cons_succ]
                refine take_to (i := 24) (d := some 106) (v := ?_) (l' := #[true, true, true, true, true, true, true, true, true, true, true, true, true, true, true, true, true, true, true, true, true, true, true, true, true]) rfl rfl (by kernel_rfl) (by kernel_rfl) (by kernel_rfl) (by kernel_rfl) (fun _ _ _ h => h) (Or.inl ⟨by rfl, ?_⟩) (by assumption) ?_; rotate_left; · (intro w' hSw; (try dsimp only at hSw); go_simp; (try with_reducible rfl))
                try simp only [Act.put, List.setIfInBounds_toArray, List.set_cons_zero, List.set_cons_succ]
                refine wpAnyH_done (by kernel_rfl) ?_ _
                refine NoPanic.normal ?_
                clear hHeld
                go_upto_region 23 with (fail)
                refine wp_region_lit ?_
                refine wpList_plain rfl (fun K hK => ?_)
                go_simp
                refine hK _ _ ?_
                clear hK K
                refine wpList_load_mid rfl 33 _ rfl T 0 rfl (tagC (G k)) _ HF.out.tg.range Tryd.underlying33 rfl (by simp [infoTag, tagC_len]) ?_
                obtain ⟨V5, hV5⟩ : ∃ V5 : Array Value, V5 = (tagC (G k)).toArray := ⟨_, rfl⟩
                have H5 := Lib.hid hV5
                rw [← hV5]
                clear hV5
                refine wpList_plain rfl (fun K hK => ?_)
                refine wp_sliceT _ rfl V5 (by rw [H5.out]; simp [tagC_len]) rfl ?_
                refine hK _ _ ?_
                clear hK K
                have HFX := Lib.hid (HF.out.fr.go (below_al _ (.cells V5 33)))
                have HNB := Lib.hid (BT.of_cells (f := G k) (laid_at (W := w14) (o := .cells V5 33) rfl) (n := 32) (fun j hj => by rw [H5.out]; exact tagC_get (G k) j hj))
                generalize w14.alloc (.cells V5 33) = w16 at *
                generalize w14.heap.size = nb at *
                obtain ⟨ie, hie, ⟨z, hz, hzs⟩, hz2, hz3⟩ := infoTagAll
                have hsb : (k + 1) * 32 ≤ 140737488355328 := by omega
                have hw14 : d.b0 ≤ w16.heap.size := HFX.out.fs.h0
                go_wp2_with (at_builtin; refine wpList_append_own _ rfl _ _ 31 rfl d.b0 33 ie z 32 32 Tryd.underlying31 hie hz hz2 hz3 hzs (by omega) _ _ _ rfl HFX.out.own ⟨nb, 0, none⟩ 1 1 (tagC (G k)) rfl (by rw [tagC_len]) (fun j u hj => by rw [Go.WideShapes.add_plain]; exact HNB.out.range j u hj) (fun u hu => by have := Array.all_eq_true'.1 (tagC_one (G k)) u (by simpa using hu); exact this) (by unfold maxLen; omega) hsb hw14 ?_)
                intro v2 w15 hown2 hgrow _
                have HF3 := Lib.hid (HFX.out.more hgrow hown2)
                clear hown2 hgrow HFX HF hie hz hzs hz2 hz3 hsb hw14 HNB
                go_wp2
                go_roundw
                case rel => exact ⟨k + 1, by omega, by go_num, by rw [HNN.out], HF3.out⟩
                case measure => simp [intOf]; omega
        · have him : m = i := by omega
          subst him
          have HLI := Lib.hid (show ∀ W, Below w.heap.size w W → ∀ j, j < m → (X j).lies W from fun W hW j hj => ((HX.out j hj).lies (by have := tot_le X m j hj; omega)).below hW)
          have HLX := Lib.hid (show ∀ W, Below w.heap.size w W → d.x.lies W from fun W hW => (HXX.out.lies s3).below hW)
          obtain ⟨L, hLL⟩ : ∃ L, L = askL th m := ⟨_, rfl⟩
          have HLL := Lib.hid hLL
          have HL1 := Lib.hid (show L.length ≤ 1000000000000 from by have := askL_le th m; rw [hLL]; omega)
          have HL3 := Lib.hid (show (addT L d.x.thing).length ≤ 1000000000000 from by have := askL_le th m; have h2 := addT_len L d.x.thing; rw [hLL] at h2 ⊢; split at h2 <;> omega)
          rw [← hLL] at HF
          obtain ⟨n, hn⟩ : ∃ n : Nat, (askL th m).length = n := ⟨_, rfl⟩
          rw [hn]
          have HN := Lib.hid (show L.length = n by rw [hLL, hn])
          clear hn hLL
          obtain ⟨A, hA⟩ : ∃ A, A = numT (idx (addT L d.x.thing) d.x.thing) := ⟨_, rfl⟩
          have HA := Lib.hid hA
          clear hA
          go_wp2_with fail
          refine (copyT_any _ d.mb d.B L HF.out.fs.m1 HF.out.fs.k1).mono ?_
          rintro e w20 ⟨cb, C, rfl, hcb, hC, hb20, hm20, hk20⟩
          have hoC : u9.ownBlock ≠ some C := fun e => by have := (HF.out.own.lt C e).2; omega
          have hbc : d.b0 ≤ cb ∧ d.b0 ≤ C := ⟨Nat.le_trans HF.out.fs.h0 hcb, Nat.le_trans HF.out.fs.h0 hC⟩
          have HK3 := Lib.hid (And.intro hm20 hk20)
          have HO := Lib.hid (And.intro hoC hbc)
          replace HF := Lib.hid (HF.out.go hb20)
          clear hcb hC hb20 hm20 hk20 hoC hbc
          go_upto_region 25 with (fail)
          obtain ⟨c0, c1, c2, c3⟩ := row4 HF.out.fs.box
          refine wp_region_lit ?_
          refine wpList_plain rfl (fun K hK => ?_)
          go_simp
          refine hK _ _ ?_
          clear hK K
          refine wpList_plain rfl (fun K hK => ?_)
          go_simp
          refine hK _ _ ?_
          clear hK K
          clear c0 c1 c2 c3
          refine wpList_plain rfl (fun K hK => ?_)
          go_simp
          refine (ask0 HK3.out.1 HK3.out.2 d.x (HLX.out _ HF.out.fs.bel) HL1.out A HA.out).mono ?_
          rintro e w21 ⟨rfl, g21, hk21, hm21⟩
          dsimp only
          refine hK _ _ ?_
          clear hK K
          replace HF := Lib.hid (HF.out.go3 g21 HO.out.2.2 HO.out.1)
          replace HK3 := Lib.hid (And.intro hm21 hk21)
          clear g21 hk21 hm21
          refine wpList_plain rfl (fun K hK => ?_)
          go_simp
          refine hK _ _ ?_
          clear hK K
          refine wpList_store_mid rfl 33 _ _ rfl w21.heap.size 0 (tagC A).toArray rfl rfl (by simpa [tagC_len] using tag_there w21) (by simp [infoTag, tagC_len]) (tagC_one _) ?_
          rw [List.toList_toArray]
          obtain ⟨ht9, hb9⟩ := tag_store w21 A
          show Exit.then _ _ Exit.normal _ ((w21.alloc (.cells (List.replicate 32 (Value.int .u8 0)).toArray 33)).setCells w21.heap.size 0 (tagC A))
          generalize (w21.alloc (.cells (List.replicate 32 (Value.int .u8 0)).toArray 33)).setCells w21.heap.size 0 (tagC A) = w22 at ht9 hb9 ⊢
          have HC := Lib.hid (show FC d w G m u9 w21.heap.size A cb C L L (addT L d.x.thing) w22 from ⟨⟨HF.out.go hb9, ht9, HF.out.fs.h0⟩, HK3.out.1.below hb9, HK3.out.2.below hb9, HO.out.2, HO.out.1, Nat.ne_of_gt HK3.out.2.lt⟩)
          obtain ⟨T, hT⟩ : ∃ T, T = w21.heap.size := ⟨_, rfl⟩
          rw [← hT] at HC ⊢
          clear hb9 ht9 HF hT HK3 HO
          obtain ⟨n3, hn3⟩ : ∃ n3 : Nat, (addT L d.x.thing).length = n3 := ⟨_, rfl⟩
          have HN3 := Lib.hid hn3
          obtain ⟨z, hz⟩ : ∃ z, toldB L.length A = z := ⟨_, rfl⟩
          have HZ := Lib.hid hz
          have hzn : ((n3 : Int) == (n : Int)) = z := by
            rw [← hz, HA.out, told_more L d.x.thing (by unfold lim64; have := HL1.out; omega), hn3, HN.out]
            rw [Bool.eq_iff_iff]; simp; omega
          have hzz : (z != z) = false := by simp
          have hNN : ((n : Int) != (n : Int)) = false := by simp
          have he := neq_tag A
          have he2 := eql_tag A
          have hgd := guard_tag A A
          clear hn3 hz
          go_upto_region 26 with (fail)
          refine wp_region_noPanic ?_
          refine wp_region_start (n := 21) (l := #[false, false, false, false, false, false, false, false, false, false, false, false, false, false, false, false, false, false, false, false, false]) (S := (fun W => (Below w.heap.size w W ∧ W.ownsRow d.b0 33 32 u9 m (tagL G m)) ∧ BT W T 32 A ∧ (W.cell? ⟨w.heap.size, 0, none⟩ = some (.int .i64 d.x.what) ∧ W.cell? ⟨w.heap.size, 0 + 1, none⟩ = some (.slice d.x.kp d.x.kn d.x.kc) ∧ W.cell? ⟨w.heap.size, 0 + 2, none⟩ = some (.slice d.x.p d.x.m d.x.c) ∧ W.cell? ⟨w.heap.size, 0 + 3, none⟩ = some (.int .i64 d.x.k)))) (by kernel_rfl) rfl (by kernel_rfl) (by first | exact HC.out.loads | exact (HC.out.go (Below.refl _ _).drew).loads) (fun hHeld => ?_)
          replace HC := Lib.hid (HC.out.go (Below.refl _ _).drew)
          generalize World.drew _ = V2 at hHeld HC ⊢
          refine take_to (i := 0) (d := some 116) (v := ?_) (l' := #[true, false, false, false, false, false, false, false, false, false, false, false, false, false, false, false, false, false, false, false, false]) rfl rfl (by kernel_rfl) (by kernel_rfl) (by kernel_rfl) (by kernel_rfl) (fun _ _ _ h => h) (Or.inl ⟨by rfl, ?_⟩) (by assumption) ?_; rotate_left; · (intro w' hSw; (try dsimp only at hSw); go_simp; (try with_reducible rfl))
          try simp only [Act.put, List.setIfInBounds_toArray, List.set_cons_zero, List.set_cons_succ]
          refine take_to (i := 2) (d := some 118) (v := ?_) (l' := #[true, false, true, false, false, false, false, false, false, false, false, false, false, false, false, false, false, false, false, false, false]) rfl rfl (by kernel_rfl) (by kernel_rfl) (by kernel_rfl) (by kernel_rfl) (fun _ _ _ h => h) (Or.inl ⟨by rfl, ?_⟩) (by assumption) ?_; rotate_left; · (intro w' hSw; (try dsimp only at hSw); go_simp; (try with_reducible rfl))
          try simp only [Act.put, List.setIfInBounds_toArray, List.set_cons_zero, List.set_cons_succ]
          refine one_to (i := 1) (l' := #[true, true, true, false, false, false, false, false, false, false, false, false, false, false, false, false, false, false, false, false, false]) rfl (by kernel_rfl) (by kernel_rfl) (fun K hK => ?_)
          go_simp
          refine (lenM_any _ d.mb d.B false (.slice none 0 0) _ HC.out.ft.fr.fs.m1 HC.out.ft.fr.fs.k1).mono ?_
          rw [HN.out]
          rintro e w14 ⟨rfl, hb14⟩
          replace HC := Lib.hid (HC.out.go hb14)
          clear hb14
          dsimp only
          refine hK.out _ _ (by first | exact HC.out.loads | exact (HC.out.go (Below.refl _ _).drew).loads) (fun hHeld => ?_)
          clear hK K
          try simp only [Act.put, List.setIfInBounds_toArray, List.set_cons_zero, List.set_cons_succ]
          refine take_to (i := 3) (d := some 119) (v := ?_) (l' := #[true, true, true, true, false, false, false, false, false, false, false, false, false, false, false, false, false, false, false, false, false]) rfl rfl (by kernel_rfl) (by kernel_rfl) (by kernel_rfl) (by kernel_rfl) (fun _ _ _ h => h) (Or.inl ⟨by rfl, ?_⟩) (by assumption) ?_; rotate_left; · (intro w' hSw; (try dsimp only at hSw); go_simp; (try with_reducible rfl))
          try simp only [Act.put, List.setIfInBounds_toArray, List.set_cons_zero, List.set_cons_succ]
          refine take_to (i := 4) (d := some 120) (v := ?_) (l' := #[true, true, true, true, true, false, false, false, false, false, false, false, false, false, false, false, false, false, false, false, false]) rfl rfl (by kernel_rfl) (by kernel_rfl) (by kernel_rfl) (by kernel_rfl) (fun _ _ _ h => h) (Or.inl ⟨by rfl, ?_⟩) (by assumption) ?_; rotate_left; · (intro w' hSw; (try dsimp only at hSw); go_simp; (try with_reducible rfl))
          try simp only [Act.put, List.setIfInBounds_toArray, List.set_cons_zero, List.set_cons_succ]
          refine take_to (i := 5) (d := some 121) (v := ?_) (l' := #[true, true, true, true, true, true, false, false, false, false, false, false, false, false, false, false, false, false, false, false, false]) rfl rfl (by kernel_rfl) (by kernel_rfl) (by kernel_rfl) (by kernel_rfl) (fun _ _ _ h => h) (Or.inl ⟨by rfl, ?_⟩) (by assumption) ?_; rotate_left; · (intro w' hSw; (try dsimp only at hSw); go_simp; (try with_reducible rfl))
          try simp only [Act.put, List.setIfInBounds_toArray, List.set_cons_zero, List.set_cons_succ]
          refine take_to (i := 6) (d := some 122) (v := (tagV A)) (l' := #[true, true, true, true, true, true, true, false, false, false, false, false, false, false, false, false, false, false, false, false, false]) rfl rfl (by kernel_rfl) (by kernel_rfl) (by kernel_rfl) (by kernel_rfl) (fun _ _ _ h => h) ?_ (by assumption) ?_
          · exact tag_load' (fun W h => h.2.1) (by rfl) rfl rfl
          try simp only [Act.put, List.setIfInBounds_toArray, List.set_cons_zero, List.set_cons_succ]
          refine take_to (i := 8) (d := some 124) (v := ?_) (l' := #[true, true, true, true, true, true, true, false, true, false, false, false, false, false, false, false, false, false, false, false, false]) rfl rfl (by kernel_rfl) (by kernel_rfl) (by kernel_rfl) (by kernel_rfl) (fun _ _ _ h => h) (Or.inl ⟨by rfl, ?_⟩) (by assumption) ?_; rotate_left; · (intro w' hSw; (try dsimp only at hSw); go_simp; (try with_reducible rfl))
          try simp only [Act.put, List.setIfInBounds_toArray, List.set_cons_zero, List.set_cons_succ]
          refine take_to (i := 10) (d := some 126) (v := ?_) (l' := #[true, true, true, true, true, true, true, false, true, false, true, false, false, false, false, false, false, false, false, false, false]) rfl rfl (by kernel_rfl) (by kernel_rfl) (by kernel_rfl) (by kernel_rfl) (fun _ _ _ h => h) (Or.inl ⟨by rfl, ?_⟩) (by assumption) ?_; rotate_left; · (intro w' hSw; (try dsimp only at hSw); go_simp; (try with_reducible rfl))
          try simp only [Act.put, List.setIfInBounds_toArray, List.set_cons_zero, List.set_cons_succ]
          refine one_to (i := 7) (l' := #[true, true, true, true, true, true, true, true, true, false, true, false, false, false, false, false, false, false, false, false, false]) rfl (by kernel_rfl) (by kernel_rfl) (fun K hK => ?_)
          go_simp
          refine (toldM_any _ d.mb d.B false (.slice none 0 0) _ A HC.out.ft.fr.fs.m1 HC.out.ft.fr.fs.k1 HL1.out).mono ?_
          rw [HZ.out]
          rintro e w14 ⟨rfl, hb14⟩
          replace HC := Lib.hid (HC.out.go hb14)
          clear hb14
          dsimp only
          refine hK.out _ _ (by first | exact HC.out.loads | exact (HC.out.go (Below.refl _ _).drew).loads) (fun hHeld => ?_)
          clear hK K
          try simp only [Act.put, List.setIfInBounds_toArray, List.set_cons_zero, List.set_cons_succ]
          refine one_to (i := 9) (l' := #[true, true, true, true, true, true, true, true, true, true, true, false, false, false, false, false, false, false, false, false, false]) rfl (by kernel_rfl) (by kernel_rfl) (fun K hK => ?_)
          go_simp
          refine (lenM_any _ cb C false (.slice none 0 0) _ HC.out.m3 HC.out.k3).mono ?_
          rw [HN3.out]
          rintro e w14 ⟨rfl, hb14⟩
          replace HC := Lib.hid (HC.out.go hb14)
          clear hb14
          dsimp only
          refine hK.out _ _ (by first | exact HC.out.loads | exact (HC.out.go (Below.refl _ _).drew).loads) (fun hHeld => ?_)
          clear hK K
          try simp only [Act.put, List.setIfInBounds_toArray, List.set_cons_zero, List.set_cons_succ]
          refine take_to (i := 11) (d := some 127) (v := ?_) (l' := #[true, true, true, true, true, true, true, true, true, true, true, true, false, false, false, false, false, false, false, false, false]) rfl rfl (by kernel_rfl) (by kernel_rfl) (by kernel_rfl) (by kernel_rfl) (fun _ _ _ h => h) (Or.inl ⟨by rfl, ?_⟩) (by assumption) ?_; rotate_left; · (intro w' hSw; (try dsimp only at hSw); go_simp; (try with_reducible rfl))
          try simp only [Act.put, List.setIfInBounds_toArray, List.set_cons_zero, List.set_cons_succ]
          refine take_to (i := 12) (d := some 128) (v := ?_) (l' := #[true, true, true, true, true, true, true, true, true, true, true, true, true, false, false, false, false, false, false, false, false]) rfl rfl (by kernel_rfl) (by kernel_rfl) (by kernel_rfl) (by kernel_rfl) (fun _ _ _ h => h) (Or.inl ⟨by rfl, ?_⟩) (by assumption) ?_; rotate_left; · (intro w' hSw; (try dsimp only at hSw); go_simp; (try with_reducible rfl))
          try simp only [Act.put, List.setIfInBounds_toArray, List.set_cons_zero, List.set_cons_succ]
          refine take_to (i := 13) (d := some 129) (v := ?_) (l' := #[true, true, true, true, true, true, true, true, true, true, true, true, true, true, false, false, false, false, false, false, false]) rfl rfl (by kernel_rfl) (by kernel_rfl) (by kernel_rfl) (by kernel_rfl) (fun _ _ _ h => h) (Or.inl ⟨by rfl, ?_⟩) (by assumption) ?_; rotate_left; · (intro w' hSw; (try dsimp only at hSw); go_simp; (try with_reducible rfl))
          try simp only [Act.put, List.setIfInBounds_toArray, List.set_cons_zero, List.set_cons_succ]
          refine take_to (i := 14) (d := some 130) (v := ?_) (l' := #[true, true, true, true, true, true, true, true, true, true, true, true, true, true, true, false, false, false, false, false, false]) rfl rfl (by kernel_rfl) (by kernel_rfl) (by kernel_rfl) (by kernel_rfl) (fun _ _ _ h => h) (Or.inl ⟨by rfl, ?_⟩) (by assumption) ?_; rotate_left; · (intro w' hSw; (try dsimp only at hSw); go_simp; (try with_reducible rfl))
          try simp only [Act.put, List.setIfInBounds_toArray, List.set_cons_zero, List.set_cons_succ]
          refine take_to (i := 15) (d := some 131) (v := ?_) (l' := #[true, true, true, true, true, true, true, true, true, true, true, true, true, true, true, true, false, false, false, false, false]) rfl rfl (by kernel_rfl) (by kernel_rfl) (by kernel_rfl) (by kernel_rfl) (fun _ _ _ h => h) (Or.inl ⟨by rfl, ?_⟩) (by assumption) ?_; rotate_left; · (intro w' hSw; (try dsimp only at hSw); go_simp; (try with_reducible rfl))
          try simp only [Act.put, List.setIfInBounds_toArray, List.set_cons_zero, List.set_cons_succ]
          refine take_to (i := 16) (d := some 132) (v := (.agg #[.int .i64 d.x.what, .slice d.x.kp d.x.kn d.x.kc, .slice d.x.p d.x.m d.x.c, .int .i64 d.x.k])) (l' := #[true, true, true, true, true, true, true, true, true, true, true, true, true, true, true, true, true, false, false, false, false]) rfl rfl (by kernel_rfl) (by kernel_rfl) (by kernel_rfl) (by kernel_rfl) (fun _ _ _ h => h) ?_ (by assumption) ?_
          · exact ask_load (fun W h => h.2.2) (by rfl) rfl rfl
          try simp only [Act.put, List.setIfInBounds_toArray, List.set_cons_zero, List.set_cons_succ]
          refine take_to (i := 18) (d := some 134) (v := (tagV A)) (l' := #[true, true, true, true, true, true, true, true, true, true, true, true, true, true, true, true, true, false, true, false, false]) rfl rfl (by kernel_rfl) (by kernel_rfl) (by kernel_rfl) (by kernel_rfl) (fun _ _ _ h => h) ?_ (by assumption) ?_
          · exact tag_load' (fun W h => h.2.1) (by rfl) rfl rfl
          try simp only [Act.put, List.setIfInBounds_toArray, List.set_cons_zero, List.set_cons_succ]
          refine one_to (i := 17) (l' := #[true, true, true, true, true, true, true, true, true, true, true, true, true, true, true, true, true, true, true, false, false]) rfl (by kernel_rfl) (by kernel_rfl) (fun K hK => ?_)
          go_simp
          refine (FC.ask2 HC.out d.x (HLX.out _ HC.out.ft.fr.fs.bel) HL1.out A HA.out).mono ?_
          rintro e w14 ⟨rfl, hf14⟩
          replace HC := Lib.hid hf14
          clear hf14
          dsimp only
          refine hK.out _ _ (by first | exact HC.out.loads | exact (HC.out.go (Below.refl _ _).drew).loads) (fun hHeld => ?_)
          clear hK K
          try simp only [Act.put, List.setIfInBounds_toArray, List.set_cons_zero, List.set_cons_succ]
          refine take_to (i := 19) (d := some 135) (v := ?_) (l' := #[true, true, true, true, true, true, true, true, true, true, true, true, true, true, true, true, true, true, true, true, false]) rfl rfl (by kernel_rfl) (by kernel_rfl) (by kernel_rfl) (by kernel_rfl) (fun _ _ _ h => h) (Or.inl ⟨by rfl, ?_⟩) (by assumption) ?_; rotate_left; · (intro w' hSw; (try dsimp only at hSw); go_simp; (try with_reducible rfl))
          try simp only [Act.put, List.setIfInBounds_toArray, List.set_cons_zero, List.set_cons_succ]
          refine take_to (i := 20) (d := some 136) (v := ?_) (l' := #[true, true, true, true, true, true, true, true, true, true, true, true, true, true, true, true, true, true, true, true, true]) rfl rfl (by kernel_rfl) (by kernel_rfl) (by kernel_rfl) (by kernel_rfl) (fun _ _ _ h => h) (Or.inl ⟨by rfl, ?_⟩) (by assumption) ?_; rotate_left; · (intro w' hSw; (try dsimp only at hSw); go_simp; (try with_reducible rfl))
          try simp only [Act.put, List.setIfInBounds_toArray, List.set_cons_zero, List.set_cons_succ]
          refine wpAnyH_done (by kernel_rfl) ?_ _
          refine NoPanic.normal ?_
          clear hHeld
          go_wp2
          go_loopw [17] (fun jv wr => ∃ j : Nat, j ≤ m ∧ jv = .int .i64 (j : Int) ∧ FC d w G m u9 T A cb C L (addT L d.x.thing) (addT L d.x.thing) wr) (fun jv _ => m - (intOf jv).toNat)
          case atStart => exact ⟨0, Nat.zero_le _, rfl, HC.out⟩
          case round =>
            obtain ⟨j, hj, rfl, hfc⟩ := hrel
            clear HC
            have HC := Lib.hid hfc
            clear hfc
            by_cases hlt2 : j < m
            · rcases HR.out with h0 | ⟨b, off, rfl, hbb, hcc⟩
              · omega
              have HAT := Lib.hid (show ∀ W, Below w.heap.size w W → ∀ j, j < m → W.cell? ⟨b, off + j * 4, none⟩ = some (.int .i64 (X j).what) ∧ W.cell? ⟨b, off + j * 4 + 1, none⟩ = some (.slice (X j).kp (X j).kn (X j).kc) ∧ W.cell? ⟨b, off + j * 4 + 2, none⟩ = some (.slice (X j).p (X j).m (X j).c) ∧ W.cell? ⟨b, off + j * 4 + 3, none⟩ = some (.int .i64 (X j).k) from fun W hW j hj => by
                rcases HR.out.below hW with h0 | ⟨b', off', he, _, hc⟩
                · omega
                cases he
                exact hc j hj)
              clear hcc
              obtain ⟨g, cap, rfl, hg, _⟩ := own_tag HC.out.ft.fr.own (by omega)
              have hm1 : (X j).thing ∈ L := by rw [HLL.out, HTH.out]; exact (askL_mem th _ m).2 ⟨j, hlt2, rfl⟩
              have hm3 : (X j).thing ∈ addT L d.x.thing := addT_sub hm1
              have HI1 := Lib.hid (addT_in hm1)
              have HI3 := Lib.hid (addT_in hm3)
              have HG1 := Lib.hid (show G j = numT (idx (addT L (X j).thing) (X j).thing) by rw [addT_in hm1, HG.out, HLL.out, HTH.out, idx_askL th j m hlt2])
              have HG3 := Lib.hid (show G j = numT (idx (addT (addT L d.x.thing) (X j).thing) (X j).thing) by rw [addT_in hm3, idx_addT hm1, HG.out, HLL.out, HTH.out, idx_askL th j m hlt2])
              clear hm1 hm3 he he2 hgd
              have he := neq_tag (G j)
              have hgd := guard_tag (G j) (G j)
              go_upto_region 31 with (fail)
              refine wp_region_noPanic ?_
              refine wp_region_start (n := 24) (l := #[false, false, false, false, false, false, false, false, false, false, false, false, false, false, false, false, false, false, false, false, false, false, false, false]) (S := (fun W => (Below w.heap.size w W ∧ W.ownsRow d.b0 33 32 (.slice (some ⟨g, 0, none⟩) m cap) m (tagL G m)) ∧ BT W T 32 A ∧ (W.cell? ⟨w.heap.size, 0, none⟩ = some (.int .i64 d.x.what) ∧ W.cell? ⟨w.heap.size, 0 + 1, none⟩ = some (.slice d.x.kp d.x.kn d.x.kc) ∧ W.cell? ⟨w.heap.size, 0 + 2, none⟩ = some (.slice d.x.p d.x.m d.x.c) ∧ W.cell? ⟨w.heap.size, 0 + 3, none⟩ = some (.int .i64 d.x.k)))) (by kernel_rfl) rfl (by kernel_rfl) (by first | exact HC.out.loads | exact (HC.out.go (Below.refl _ _).drew).loads) (fun hHeld => ?_)
              replace HC := Lib.hid (HC.out.go (Below.refl _ _).drew)
              generalize World.drew _ = V2 at hHeld HC ⊢
              refine take_to (i := 0) (d := some 143) (v := ?_) (l' := #[true, false, false, false, false, false, false, false, false, false, false, false, false, false, false, false, false, false, false, false, false, false, false, false]) rfl rfl (by kernel_rfl) (by kernel_rfl) (by kernel_rfl) (by kernel_rfl) (fun _ _ _ h => h) (Or.inl ⟨by rfl, ?_⟩) (by assumption) ?_; rotate_left; · (intro w' hSw; (try dsimp only at hSw); go_simp; (try with_reducible rfl))
              try simp only [Act.put, List.setIfInBounds_toArray, List.set_cons_zero, List.set_cons_succ]
              refine take_to (i := 1) (d := some 144) (v := ?_) (l' := #[true, true, false, false, false, false, false, false, false, false, false, false, false, false, false, false, false, false, false, false, false, false, false, false]) rfl rfl (by kernel_rfl) (by kernel_rfl) (by kernel_rfl) (by kernel_rfl) (fun _ _ _ h => h) (Or.inl ⟨by rfl, ?_⟩) (by assumption) ?_; rotate_left; · (intro w' hSw; (try dsimp only at hSw); go_simp; (try with_reducible rfl))
              try simp only [Act.put, List.setIfInBounds_toArray, List.set_cons_zero, List.set_cons_succ]
              refine take_to (i := 2) (d := some 145) (v := ?_) (l' := #[true, true, true, false, false, false, false, false, false, false, false, false, false, false, false, false, false, false, false, false, false, false, false, false]) rfl rfl (by kernel_rfl) (by kernel_rfl) (by kernel_rfl) (by kernel_rfl) (fun _ _ _ h => h) (Or.inl ⟨by rfl, ?_⟩) (by assumption) ?_; rotate_left; · (intro w' hSw; (try dsimp only at hSw); go_simp; (try with_reducible rfl))
              try simp only [Act.put, List.setIfInBounds_toArray, List.set_cons_zero, List.set_cons_succ]
              refine take_to (i := 3) (d := some 146) (v := ?_) (l' := #[true, true, true, true, false, false, false, false, false, false, false, false, false, false, false, false, false, false, false, false, false, false, false, false]) rfl rfl (by kernel_rfl) (by kernel_rfl) (by kernel_rfl) (by kernel_rfl) (fun _ _ _ h => h) (Or.inl ⟨by rfl, ?_⟩) (by assumption) ?_; rotate_left; · (intro w' hSw; (try dsimp only at hSw); go_simp; (try with_reducible rfl))
              try simp only [Act.put, List.setIfInBounds_toArray, List.set_cons_zero, List.set_cons_succ]
              refine take_to (i := 4) (d := some 147) (v := (.agg #[.int .i64 (X j).what, .slice (X j).kp (X j).kn (X j).kc, .slice (X j).p (X j).m (X j).c, .int .i64 (X j).k])) (l' := #[true, true, true, true, true, false, false, false, false, false, false, false, false, false, false, false, false, false, false, false, false, false, false, false]) rfl rfl (by kernel_rfl) (by kernel_rfl) (by kernel_rfl) (by kernel_rfl) (fun _ _ _ h => h) ?_ (by assumption) ?_
              · exact ask_load (fun W h => HAT.out W h.1.1 j (by omega)) (by rfl) rfl rfl
              try simp only [Act.put, List.setIfInBounds_toArray, List.set_cons_zero, List.set_cons_succ]
              refine take_to (i := 6) (d := some 149) (v := ?_) (l' := #[true, true, true, true, true, false, true, false, false, false, false, false, false, false, false, false, false, false, false, false, false, false, false, false]) rfl rfl (by kernel_rfl) (by kernel_rfl) (by kernel_rfl) (by kernel_rfl) (fun _ _ _ h => h) (Or.inl ⟨by rfl, ?_⟩) (by assumption) ?_; rotate_left; · (intro w' hSw; (try dsimp only at hSw); go_simp; (try with_reducible rfl))
              try simp only [Act.put, List.setIfInBounds_toArray, List.set_cons_zero, List.set_cons_succ]
              refine take_to (i := 7) (d := some 150) (v := ?_) (l' := #[true, true, true, true, true, false, true, true, false, false, false, false, false, false, false, false, false, false, false, false, false, false, false, false]) rfl rfl (by kernel_rfl) (by kernel_rfl) (by kernel_rfl) (by kernel_rfl) (fun _ _ _ h => h) (Or.inl ⟨by rfl, ?_⟩) (by assumption) ?_; rotate_left; · (intro w' hSw; (try dsimp only at hSw); go_simp; (try with_reducible rfl))
              try simp only [Act.put, List.setIfInBounds_toArray, List.set_cons_zero, List.set_cons_succ]
              refine take_to (i := 8) (d := some 151) (v := ?_) (l' := #[true, true, true, true, true, false, true, true, true, false, false, false, false, false, false, false, false, false, false, false, false, false, false, false]) rfl rfl (by kernel_rfl) (by kernel_rfl) (by kernel_rfl) (by kernel_rfl) (fun _ _ _ h => h) (Or.inl ⟨by rfl, ?_⟩) (by assumption) ?_; rotate_left; · (intro w' hSw; (try dsimp only at hSw); go_simp; (try with_reducible rfl))
              try simp only [Act.put, List.setIfInBounds_toArray, List.set_cons_zero, List.set_cons_succ]
              refine take_to (i := 9) (d := some 152) (v := (tagV (G j))) (l' := #[true, true, true, true, true, false, true, true, true, true, false, false, false, false, false, false, false, false, false, false, false, false, false, false]) rfl rfl (by kernel_rfl) (by kernel_rfl) (by kernel_rfl) (by kernel_rfl) (fun _ _ _ h => h) ?_ (by assumption) ?_
              · exact tagAt_load hlt2 (fun W h => h.1.2) (by rfl) rfl rfl
              try simp only [Act.put, List.setIfInBounds_toArray, List.set_cons_zero, List.set_cons_succ]
              refine one_to (i := 5) (l' := #[true, true, true, true, true, true, true, true, true, true, false, false, false, false, false, false, false, false, false, false, false, false, false, false]) rfl (by kernel_rfl) (by kernel_rfl) (fun K hK => ?_)
              go_simp
              refine (FC.ask3 HC.out (X j) (HLI.out _ HC.out.ft.fr.fs.bel j hlt2) HL3.out (G j) HG3.out).mono ?_
              rintro e w14 ⟨rfl, hf14⟩
              rw [HI3.out] at hf14
              replace HC := Lib.hid hf14
              clear hf14
              dsimp only
              refine hK.out _ _ (by first | exact HC.out.loads | exact (HC.out.go (Below.refl _ _).drew).loads) (fun hHeld => ?_)
              clear hK K
              try simp only [Act.put, List.setIfInBounds_toArray, List.set_cons_zero, List.set_cons_succ]
              refine take_to (i := 10) (d := some 153) (v := ?_) (l' := #[true, true, true, true, true, true, true, true, true, true, true, false, false, false, false, false, false, false, false, false, false, false, false, false]) rfl rfl (by kernel_rfl) (by kernel_rfl) (by kernel_rfl) (by kernel_rfl) (fun _ _ _ h => h) (Or.inl ⟨by rfl, ?_⟩) (by assumption) ?_; rotate_left; · (intro w' hSw; (try dsimp only at hSw); go_simp; (try with_reducible rfl))
              try simp only [Act.put, List.setIfInBounds_toArray, List.set_cons_zero, List.set_cons_succ]
              refine take_to (i := 11) (d := some 154) (v := ?_) (l' := #[true, true, true, true, true, true, true, true, true, true, true, true, false, false, false, false, false, false, false, false, false, false, false, false]) rfl rfl (by kernel_rfl) (by kernel_rfl) (by kernel_rfl) (by kernel_rfl) (fun _ _ _ h => h) (Or.inl ⟨by rfl, ?_⟩) (by assumption) ?_; rotate_left; · (intro w' hSw; (try dsimp only at hSw); go_simp; (try with_reducible rfl))
              try simp only [Act.put, List.setIfInBounds_toArray, List.set_cons_zero, List.set_cons_succ]
              refine take_to (i := 12) (d := some 155) (v := ?_) (l' := #[true, true, true, true, true, true, true, true, true, true, true, true, true, false, false, false, false, false, false, false, false, false, false, false]) rfl rfl (by kernel_rfl) (by kernel_rfl) (by kernel_rfl) (by kernel_rfl) (fun _ _ _ h => h) (Or.inl ⟨by rfl, ?_⟩) (by assumption) ?_; rotate_left; · (intro w' hSw; (try dsimp only at hSw); go_simp; (try with_reducible rfl))
              try simp only [Act.put, List.setIfInBounds_toArray, List.set_cons_zero, List.set_cons_succ]
              refine take_to (i := 13) (d := some 156) (v := ?_) (l' := #[true, true, true, true, true, true, true, true, true, true, true, true, true, true, false, false, false, false, false, false, false, false, false, false]) rfl rfl (by kernel_rfl) (by kernel_rfl) (by kernel_rfl) (by kernel_rfl) (fun _ _ _ h => h) (Or.inl ⟨by rfl, ?_⟩) (by assumption) ?_; rotate_left; · (intro w' hSw; (try dsimp only at hSw); go_simp; (try with_reducible rfl))
              try simp only [Act.put, List.setIfInBounds_toArray, List.set_cons_zero, List.set_cons_succ]
              refine take_to (i := 14) (d := some 157) (v := ?_) (l' := #[true, true, true, true, true, true, true, true, true, true, true, true, true, true, true, false, false, false, false, false, false, false, false, false]) rfl rfl (by kernel_rfl) (by kernel_rfl) (by kernel_rfl) (by kernel_rfl) (fun _ _ _ h => h) (Or.inl ⟨by rfl, ?_⟩) (by assumption) ?_; rotate_left; · (intro w' hSw; (try dsimp only at hSw); go_simp; (try with_reducible rfl))
              try simp only [Act.put, List.setIfInBounds_toArray, List.set_cons_zero, List.set_cons_succ]
              refine take_to (i := 15) (d := some 158) (v := ?_) (l' := #[true, true, true, true, true, true, true, true, true, true, true, true, true, true, true, true, false, false, false, false, false, false, false, false]) rfl rfl (by kernel_rfl) (by kernel_rfl) (by kernel_rfl) (by kernel_rfl) (fun _ _ _ h => h) (Or.inl ⟨by rfl, ?_⟩) (by assumption) ?_; rotate_left; · (intro w' hSw; (try dsimp only at hSw); go_simp; (try with_reducible rfl))
              try simp only [Act.put, List.setIfInBounds_toArray, List.set_cons_zero, List.set_cons_succ]
              refine take_to (i := 16) (d := some 159) (v := (.agg #[.int .i64 (X j).what, .slice (X j).kp (X j).kn (X j).kc, .slice (X j).p (X j).m (X j).c, .int .i64 (X j).k])) (l' := #[true, true, true, true, true, true, true, true, true, true, true, true, true, true, true, true, true, false, false, false, false, false, false, false]) rfl rfl (by kernel_rfl) (by kernel_rfl) (by kernel_rfl) (by kernel_rfl) (fun _ _ _ h => h) ?_ (by assumption) ?_
              · exact ask_load (fun W h => HAT.out W h.1.1 j (by omega)) (by rfl) rfl rfl
              try simp only [Act.put, List.setIfInBounds_toArray, List.set_cons_zero, List.set_cons_succ]
              refine take_to (i := 18) (d := some 161) (v := ?_) (l' := #[true, true, true, true, true, true, true, true, true, true, true, true, true, true, true, true, true, false, true, false, false, false, false, false]) rfl rfl (by kernel_rfl) (by kernel_rfl) (by kernel_rfl) (by kernel_rfl) (fun _ _ _ h => h) (Or.inl ⟨by rfl, ?_⟩) (by assumption) ?_; rotate_left; · (intro w' hSw; (try dsimp only at hSw); go_simp; (try with_reducible rfl))
              try simp only [Act.put, List.setIfInBounds_toArray, List.set_cons_zero, List.set_cons_succ]
              refine take_to (i := 19) (d := some 162) (v := ?_) (l' := #[true, true, true, true, true, true, true, true, true, true, true, true, true, true, true, true, true, false, true, true, false, false, false, false]) rfl rfl (by kernel_rfl) (by kernel_rfl) (by kernel_rfl) (by kernel_rfl) (fun _ _ _ h => h) (Or.inl ⟨by rfl, ?_⟩) (by assumption) ?_; rotate_left; · (intro w' hSw; (try dsimp only at hSw); go_simp; (try with_reducible rfl))
              try simp only [Act.put, List.setIfInBounds_toArray, List.set_cons_zero, List.set_cons_succ]
              refine take_to (i := 20) (d := some 163) (v := ?_) (l' := #[true, true, true, true, true, true, true, true, true, true, true, true, true, true, true, true, true, false, true, true, true, false, false, false]) rfl rfl (by kernel_rfl) (by kernel_rfl) (by kernel_rfl) (by kernel_rfl) (fun _ _ _ h => h) (Or.inl ⟨by rfl, ?_⟩) (by assumption) ?_; rotate_left; · (intro w' hSw; (try dsimp only at hSw); go_simp; (try with_reducible rfl))
              try simp only [Act.put, List.setIfInBounds_toArray, List.set_cons_zero, List.set_cons_succ]
              refine take_to (i := 21) (d := some 164) (v := (tagV (G j))) (l' := #[true, true, true, true, true, true, true, true, true, true, true, true, true, true, true, true, true, false, true, true, true, true, false, false]) rfl rfl (by kernel_rfl) (by kernel_rfl) (by kernel_rfl) (by kernel_rfl) (fun _ _ _ h => h) ?_ (by assumption) ?_
              · exact tagAt_load hlt2 (fun W h => h.1.2) (by rfl) rfl rfl
              try simp only [Act.put, List.setIfInBounds_toArray, List.set_cons_zero, List.set_cons_succ]
              refine one_to (i := 17) (l' := #[true, true, true, true, true, true, true, true, true, true, true, true, true, true, true, true, true, true, true, true, true, true, false, false]) rfl (by kernel_rfl) (by kernel_rfl) (fun K hK => ?_)
              go_simp
              refine (FC.ask1 HC.out (X j) (HLI.out _ HC.out.ft.fr.fs.bel j hlt2) HL1.out (G j) HG1.out).mono ?_
              rintro e w14 ⟨rfl, hf14⟩
              rw [HI1.out] at hf14
              replace HC := Lib.hid hf14
              clear hf14
              dsimp only
              refine hK.out _ _ (by first | exact HC.out.loads | exact (HC.out.go (Below.refl _ _).drew).loads) (fun hHeld => ?_)
              clear hK K
              try simp only [Act.put, List.setIfInBounds_toArray, List.set_cons_zero, List.set_cons_succ]
              refine take_to (i := 22) (d := some 165) (v := ?_) (l' := #[true, true, true, true, true, true, true, true, true, true, true, true, true, true, true, true, true, true, true, true, true, true, true, false]) rfl rfl (by kernel_rfl) (by kernel_rfl) (by kernel_rfl) (by kernel_rfl) (fun _ _ _ h => h) (Or.inl ⟨by rfl, ?_⟩) (by assumption) ?_; rotate_left; · (intro w' hSw; (try dsimp only at hSw); go_simp; (try with_reducible rfl))
              try simp only [Act.put, List.setIfInBounds_toArray, List.set_cons_zero, List.set_cons_succ]
              refine take_to (i := 23) (d := some 166) (v := ?_) (l' := #[true, true, true, true, true, true, true, true, true, true, true, true, true, true, true, true, true, true, true, true, true, true, true, true]) rfl rfl (by kernel_rfl) (by kernel_rfl) (by kernel_rfl) (by kernel_rfl) (fun _ _ _ h => h) (Or.inl ⟨by rfl, ?_⟩) (by assumption) ?_; rotate_left; · (intro w' hSw; (try dsimp only at hSw); go_simp; (try with_reducible rfl))
              try simp only [Act.put, List.setIfInBounds_toArray, List.set_cons_zero, List.set_cons_succ]
              refine wpAnyH_done (by kernel_rfl) ?_ _
              refine NoPanic.normal ?_
              clear hHeld
              go_wp2
              go_roundw
              case rel => exact ⟨j + 1, by omega, by go_num, HC.out⟩
              case measure => simp [intOf]; omega
            · skip
              go_upto_region 33 with (fail)
              refine wp_region_noPanic ?_
              refine wp_region_start (n := 6) (l := #[false, false, false, false, false, false]) (S := (fun W => (Below w.heap.size w W ∧ W.ownsRow d.b0 33 32 u9 m (tagL G m)) ∧ BT W T 32 A ∧ (W.cell? ⟨w.heap.size, 0, none⟩ = some (.int .i64 d.x.what) ∧ W.cell? ⟨w.heap.size, 0 + 1, none⟩ = some (.slice d.x.kp d.x.kn d.x.kc) ∧ W.cell? ⟨w.heap.size, 0 + 2, none⟩ = some (.slice d.x.p d.x.m d.x.c) ∧ W.cell? ⟨w.heap.size, 0 + 3, none⟩ = some (.int .i64 d.x.k)))) (by kernel_rfl) rfl (by kernel_rfl) (by first | exact HC.out.loads | exact (HC.out.go (Below.refl _ _).drew).loads) (fun hHeld => ?_)
              replace HC := Lib.hid (HC.out.go (Below.refl _ _).drew)
              generalize World.drew _ = V2 at hHeld HC ⊢
              refine take_to (i := 0) (d := some 167) (v := ?_) (l' := #[true, false, false, false, false, false]) rfl rfl (by kernel_rfl) (by kernel_rfl) (by kernel_rfl) (by kernel_rfl) (fun _ _ _ h => h) (Or.inl ⟨by rfl, ?_⟩) (by assumption) ?_; rotate_left; · (intro w' hSw; (try dsimp only at hSw); go_simp; (try with_reducible rfl))
              try simp only [Act.put, List.setIfInBounds_toArray, List.set_cons_zero, List.set_cons_succ]
              refine take_to (i := 1) (d := some 168) (v := (.agg #[.int .i64 d.x.what, .slice d.x.kp d.x.kn d.x.kc, .slice d.x.p d.x.m d.x.c, .int .i64 d.x.k])) (l' := #[true, true, false, false, false, false]) rfl rfl (by kernel_rfl) (by kernel_rfl) (by kernel_rfl) (by kernel_rfl) (fun _ _ _ h => h) ?_ (by assumption) ?_
              · exact ask_load (fun W h => h.2.2) (by rfl) rfl rfl
              try simp only [Act.put, List.setIfInBounds_toArray, List.set_cons_zero, List.set_cons_succ]
              refine take_to (i := 3) (d := some 170) (v := (tagV A)) (l' := #[true, true, false, true, false, false]) rfl rfl (by kernel_rfl) (by kernel_rfl) (by kernel_rfl) (by kernel_rfl) (fun _ _ _ h => h) ?_ (by assumption) ?_
              · exact tag_load' (fun W h => h.2.1) (by rfl) rfl rfl
              try simp only [Act.put, List.setIfInBounds_toArray, List.set_cons_zero, List.set_cons_succ]
              refine one_to (i := 2) (l' := #[true, true, true, true, false, false]) rfl (by kernel_rfl) (by kernel_rfl) (fun K hK => ?_)
              go_simp
              refine (FC.ask1 HC.out d.x (HLX.out _ HC.out.ft.fr.fs.bel) HL1.out A HA.out).mono ?_
              rintro e w14 ⟨rfl, hf14⟩
              replace HC := Lib.hid hf14
              clear hf14
              dsimp only
              refine hK.out _ _ (by first | exact HC.out.loads | exact (HC.out.go (Below.refl _ _).drew).loads) (fun hHeld => ?_)
              clear hK K
              try simp only [Act.put, List.setIfInBounds_toArray, List.set_cons_zero, List.set_cons_succ]
              refine take_to (i := 4) (d := some 171) (v := ?_) (l' := #[true, true, true, true, true, false]) rfl rfl (by kernel_rfl) (by kernel_rfl) (by kernel_rfl) (by kernel_rfl) (fun _ _ _ h => h) (Or.inl ⟨by rfl, ?_⟩) (by assumption) ?_; rotate_left; · (intro w' hSw; (try dsimp only at hSw); go_simp; (try with_reducible rfl))
              try simp only [Act.put, List.setIfInBounds_toArray, List.set_cons_zero, List.set_cons_succ]
              refine take_to (i := 5) (d := some 6) (v := ?_) (l' := #[true, true, true, true, true, true]) rfl rfl (by kernel_rfl) (by kernel_rfl) (by kernel_rfl) (by kernel_rfl) (fun _ _ _ h => h) (Or.inl ⟨by rfl, ?_⟩) (by assumption) ?_; rotate_left; · (intro w' hSw; (try dsimp only at hSw); go_simp; (try with_reducible rfl))
              try simp only [Act.put, List.setIfInBounds_toArray, List.set_cons_zero, List.set_cons_succ]
              refine wpAnyH_done (by kernel_rfl) ?_ _
              refine NoPanic.normal ?_
              clear hHeld
              go_wp2
              go_ret
              exact ⟨rfl, HC.out.ft.fr.fs.bel⟩
    · go_wp2
      go_ret
      exact ⟨rfl, hB1⟩
end Go.Proofs.YtjflaeohkhmkaaaDoor
