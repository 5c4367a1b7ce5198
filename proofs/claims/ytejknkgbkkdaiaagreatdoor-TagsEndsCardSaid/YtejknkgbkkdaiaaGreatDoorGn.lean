/-
  The walk of TagsTell.
-/
import Derived.Test.YtejknkgbkkdaiaaGreatDoorGm
import Derived.Deep.Cut
import Derived.Deep.CutRange
namespace Go.Proofs.YtejknkgbkkdaiaaGreatDoor
open Go.RowKit
set_option linter.unusedVariables false
set_option linter.unusedSimpArgs false

set_option maxHeartbeats 40000000 in
set_option maxRecDepth 100000 in
theorem tagsTell_walk (real : Bool) (sp : Option Addr) (sm sc : Nat) (sd : Nat → BitVec 8) (p : Option Addr) (m c : Nat) (X : Nat → Ask) (t : Nat → BitVec 8) (w : World) (mx : Int) (hmx : w.cell? ⟨mk_lays_ren.g 1, 0, none⟩ = some (.int .i64 mx)) (hk : Kc w.heap.size w) (hm : m ≤ 5864062014634) (hr : AskRow w.heap.size w p m X) (hX : ∀ i, i < m → (X i).there w)
    (hsr : Reads w.heap.size w sp sm (fun j => .int .u8 (ub (sd j)))) (hsc : sm ≤ sc) (hscm : sc ≤ 140737488351232) (hsz : sp = none → sc = 0) :
    Calls Tryz.prog 3 #[.bool real, .slice sp sm sc, .slice p m c, tagV t] w fun e w' => e = .returned (.bool true) ∧ Below w.heap.size w w' := by
  have HK := Lib.hid hk
  have HR := Lib.hid hr
  have HX := Lib.hid hX
  have HSR := Lib.hid hsr
  have HSZ := Lib.hid (show (sp = none → sc = 0) ∧ (sp = none → sm = 0) from ⟨hsz, fun e => by have := hsz e; omega⟩)
  have HMX := Lib.hid hmx
  clear hk hr hX hsr hsz hmx
  have HBX := Lib.hid (show BT (w.alloc (.cells (tagC t).toArray 25)) w.heap.size 32 t from BT.of_cells (laid_at rfl) (fun i hi => tagC_get t i hi))
  have HB := Lib.hid (below_al w (.cells (tagC t).toArray 25))
  unfold tagV
  go_enter Tryz.func3, Tryz.ntmps3
  go_upto_region 1 with (fail)
  generalize w.alloc (.cells (tagC t).toArray 25) = V at HBX HB ⊢
  go_wp2_with fail
  refine (size04_any _ p m c X hm ((HR.out.below HB.out).mono HB.out.size) (fun i hi => ((HX.out i hi).fits.below HB.out).mono HB.out.size)).mono ?_
  rintro e w2 ⟨x1, rfl, hs1, hs1b, hb2⟩
  have HS1 := Lib.hid hs1
  replace HBX := Lib.hid (HBX.out.below' hb2)
  replace HB := Lib.hid (HB.out.trans (hb2.mono HB.out.size))
  clear hb2 hs1
  have hw := IntWalk.i64_in ((x1 : Int) + sm) (by omega)
  by_cases hgt : (400 : Int) < (x1 : Int) + sm
  · go_wp2_with fail
    refine (awake4 _).mono ?_
    rintro e w3 ⟨rfl, hb3⟩
    replace HB := Lib.hid (HB.out.trans (hb3.mono HB.out.size))
    clear hb3
    go_wp2
    go_ret
    exact ⟨rfl, HB.out⟩
  · have hx1 : x1 = m + totA X m := HS1.out (by omega)
    have s1 : m + totA X m ≤ 400 := by omega
    have s2 : sm ≤ 400 := by omega
    clear hx1 hw HS1
    go_wp2_with fail
    refine (LentBytes.lent2 w2.heap.size sp sm sc (fun j => ub (sd j)) w2 (by omega) (fun e => ⟨HSZ.out.2 e, HSZ.out.1 e⟩) ((HSR.out.below HB.out).mono HB.out.size) (Nat.le_refl _)).mono ?_
    rintro e w3 ⟨g, rfl, hg, hb3, ho3⟩
    have HO3 := Lib.hid ho3
    have HG := Lib.hid (show w.heap.size < g ∧ g < w3.heap.size from ⟨Nat.lt_of_lt_of_le HBX.out.lt hg, (ho3.lt g rfl).2⟩)
    replace HBX := Lib.hid (HBX.out.below' hb3)
    replace HB := Lib.hid (HB.out.trans (hb3.mono HB.out.size))
    clear hg hb3 ho3
    go_wp2_with fail
    refine (newA_any real g sm (sm + 12) sd w3 s2 (first_reads (by obtain ⟨p', c', he, hr, _⟩ := owns_reads HO3.out; cases he; exact hr))).mono ?_
    rintro e w4 ⟨mb, B, sv, rfl, h1, h2, h3, h4, h5, h6, h7⟩
    have HNW := Lib.hid (And.intro (And.intro h1 h2) (And.intro h3 (And.intro h4 (And.intro h5 (And.intro h6 h7)))))
    clear h1 h2 h3 h4 h5 h6 h7
    go_wp2_with fail
    refine (LentBytes.over w2.heap.size _ sm _ _ (owns_first (owns_below (owns_below HO3.out HNW.out.2.1) (below_al w4 (.cells #[.bool real, .slice sp sm sc, .slice none 0 0] 34))) (n := sm) (by omega)) (by omega)).mono ?_
    rintro e w6 ⟨rfl, hgr⟩
    have HT := Lib.hid (TW4.new (sp := sp) (sc := sc) HB.out HBX.out HG.out.1 HG.out.2 HNW.out.1.1 HNW.out.1.2 HNW.out.2.1 HNW.out.2.2.1 HNW.out.2.2.2.1 HNW.out.2.2.2.2.1 HNW.out.2.2.2.2.2 hgr)
    obtain ⟨d, hd⟩ : ∃ d : TD, d = ⟨real, sp, sm, sc, sd, mb, B, w4.heap.size, sv, w6.heap.size, t⟩ := ⟨_, rfl⟩
    obtain ⟨rfl, hdsp, rfl, hdsc, hdsd, rfl, rfl, hdrb, rfl⟩ : real = d.real ∧ sp = d.sp ∧ sm = d.sm ∧ sc = d.sc ∧ sd = d.sd ∧ mb = d.mb ∧ t = d.t ∧ w4.heap.size = d.rb ∧ B = d.B := by subst hd; exact ⟨rfl, rfl, rfl, rfl, rfl, rfl, rfl, rfl, rfl⟩
    rw [← hd] at HT
    clear hd HO3 HG HBX HB HNW hgr
    subst hdsp hdsc hdsd
    dsimp only
    rw [hdrb]
    clear hdrb
    refine list_goT (by assumption) ?_
    go_wp2
    go_loopw [12] (fun iv wr => ∃ i : Nat, i ≤ m ∧ iv = .int .i64 (i : Int) ∧ ∃ av L, L.length ≤ i ∧ TW4 d w av L L wr) (fun iv _ => m - (intOf iv).toNat)
    case atStart => exact ⟨0, Nat.zero_le _, rfl, _, _, Nat.le_refl _, HT.out⟩
    case round =>
      obtain ⟨i, hi, rfl, av, L, hL, hw⟩ := hrel
      clear HT
      have HT := Lib.hid hw
      clear hw
      by_cases hlt : i < m
      · rcases HR.out with h0 | ⟨b, off, rfl, hbb, hcc⟩
        · omega
        have HAT := Lib.hid (show ∀ W, Below w.heap.size w W → W.cell? ⟨b, off + i * 4, none⟩ = some (.int .i64 (X i).what) ∧ W.cell? ⟨b, off + i * 4 + 1, none⟩ = some (.slice (X i).kp (X i).kn (X i).kc) ∧ W.cell? ⟨b, off + i * 4 + 2, none⟩ = some (.slice (X i).p (X i).m (X i).c) ∧ W.cell? ⟨b, off + i * 4 + 3, none⟩ = some (.int .i64 (X i).k) from fun W hW => by
          rcases HR.out.below hW with h0 | ⟨b', off', he, _, hc⟩
          · omega
          cases he
          exact hc i hlt)
        have hyt : (X i).tot ≤ 400 := by have := tot_le X m i hlt; omega
        have HY := Lib.hid (HX.out i hlt)
        obtain ⟨y, hy⟩ : ∃ y, y = X i := ⟨_, rfl⟩
        rw [← hy] at HAT HY hyt
        clear hcc hy
        have hm4 : m ≤ 400 := by omega
        have hL4 : L.length ≤ 400 := by omega
        obtain ⟨c0, c1, c2, c3⟩ := HAT.out _ HT.out.bel
        have hbz : b < wr.heap.size := Nat.lt_of_lt_of_le hbb HT.out.bel.size
        go_wp2_with fail
        clear c0 c1 c2 c3
        have hal := below_al wr (.cells #[.int .i64 y.what, .slice y.kp y.kn y.kc, .slice y.p y.m y.c, .int .i64 y.k] 38)
        have hbW := HT.out.bel.trans (hal.mono HT.out.bel.size)
        refine (LentBytes.lent2 _ y.kp y.kn y.kc (fun j => ub (y.key j)) _ (by unfold Ask.tot at hyt; omega) (fun e => ⟨HY.out.kz e, HY.out.nil.1 e⟩) ((HY.out.key.below hbW).mono hbW.size) (Nat.le_refl _)).mono ?_
        rintro e w7 ⟨gk, rfl, hgk, hb7, ho7⟩
        have HTA := Lib.hid (TA4.start (y := y) HT.out hgk hb7 ho7)
        have hyx := laid_go (laid_at (W := wr) (o := .cells #[.int .i64 y.what, .slice y.kp y.kn y.kc, .slice y.p y.m y.c, .int .i64 y.k] 38) rfl) hb7
        obtain ⟨y0, y1, y2, y3⟩ := row4 hyx
        have yf1 := frozen_of_row w7 wr.heap.size 1 _ _ hyx
        have yf2 := frozen_of_row w7 wr.heap.size 2 _ _ hyx
        have yz := (Array.getElem?_eq_some_iff.1 hyx).1
        clear hal hbW hgk hb7 ho7 hyx HT
        go_upto_region 13 with (fail)
        obtain ⟨b1, hb1⟩ : ∃ b1, b1 = wr.heap.size := ⟨_, rfl⟩
        obtain ⟨b2, hb2⟩ : ∃ b2, b2 = w7.heap.size := ⟨_, rfl⟩
        rw [← hb1, ← hb2] at HTA
        rw [← hb1]
        clear y0 y1 y2 y3 yf1 yf2 yz hb1 hb2
        generalize ((w7.setCell ⟨b1, 1, none⟩ (.slice (some ⟨gk, 0, none⟩) y.kn (y.kn + 12))).setCell ⟨b1, 2, none⟩ (.slice none 0 0)) = W7 at HTA ⊢
        go_wp2
        go_loopw [14] (fun kv wr => ∃ k : Nat, k ≤ y.m ∧ kv = .int .i64 (k : Int) ∧ ∃ v G, TA4 d w av L b1 b2 b1 gk y v k G wr) (fun kv _ => y.m - (intOf kv).toNat)
        case atStart => exact ⟨0, Nat.zero_le _, rfl, _, _, HTA.out⟩
        case round =>
          obtain ⟨k, hk, rfl, v, G, hta⟩ := hrel
          clear HTA
          have HTA := Lib.hid hta
          clear hta
          obtain ⟨c0, c1, c2, c3⟩ := HAT.out _ HTA.out.tw.bel
          by_cases hlk : k < y.m
          · rcases HY.out.rows.rows with h0 | ⟨rw, ro, hp, hrw, hrc⟩
            · omega
            have HCC := Lib.hid (show ∀ W, Below w.heap.size w W → W.cell? ⟨b, off + i * 4 + 2, none⟩ = some (.slice (some ⟨rw, ro, none⟩) y.m y.c) ∧ W.cell? ⟨rw, ro + k, none⟩ = some (.slice (y.P k) (y.ln k) (y.C k)) from fun W hW => by
              refine ⟨by rw [← hp]; exact (HAT.out W hW).2.2.1, ?_⟩
              rcases HY.out.rows.rows.below hW with h0 | ⟨b', o', he, _, hc'⟩
              · omega
              · rw [hp] at he
                cases he
                exact hc' k hlk)
            have HLK := Lib.hid (show y.ln k ≤ 4294967295 from by have := pos_ge y.ln y.m k hlk; unfold Ask.tot at hyt; omega)
            have HPZ := Lib.hid (show y.P k = none → y.ln k = 0 from fun e => by
              have h1 := HY.out.nil.2 k hlk e
              have h2 := (HY.out.rows.cap k hlk).1
              omega)
            clear hrc hp
            have hm14 : y.m ≤ 400 := by unfold Ask.tot at hyt; omega
            go_upto_region 15 with (fail)
            clear c0 c1 c2 c3
            refine wp_region_noPanic ?_
            refine wp_region_start (n := 15) (l := #[false, false, false, false, false, false, false, false, false, false, false, false, false, false, false]) (S := (fun W => W.cell? ⟨b, off + i * 4 + 2, none⟩ = some (.slice (some ⟨rw, ro, none⟩) y.m y.c) ∧ W.cell? ⟨rw, ro + k, none⟩ = some (.slice (y.P k) (y.ln k) (y.C k)))) (by kernel_rfl) rfl (by kernel_rfl) (by first | exact HCC.out _ HTA.out.tw.bel | exact HCC.out _ (HTA.out.go (Below.refl _ _).drew).tw.bel | exact HCC.out _ (HTA.out.go (below_al _ _)).tw.bel) (fun hHeld => ?_)
            replace HTA := Lib.hid (HTA.out.go (Below.refl _ _).drew)
            generalize World.drew _ = V2 at hHeld HTA ⊢
            refine take_to (i := 0) (d := some 64) (v := ?_) (l' := #[true, false, false, false, false, false, false, false, false, false, false, false, false, false, false]) rfl rfl (by kernel_rfl) (by kernel_rfl) (by kernel_rfl) (by kernel_rfl) (fun _ _ _ h => h) (Or.inl ⟨by rfl, ?_⟩) (by assumption) ?_; rotate_left; · (intro w' hSw; (try dsimp only at hSw); go_simp; (try with_reducible rfl))
            try simp only [Act.put, List.setIfInBounds_toArray, List.set_cons_zero, List.set_cons_succ]
            refine take_to (i := 2) (d := some 66) (v := ?_) (l' := #[true, false, true, false, false, false, false, false, false, false, false, false, false, false, false]) rfl rfl (by kernel_rfl) (by kernel_rfl) (by kernel_rfl) (by kernel_rfl) (fun _ _ _ h => h) (Or.inl ⟨by rfl, ?_⟩) (by assumption) ?_; rotate_left; · (intro w' hSw; (try dsimp only at hSw); go_simp; (try with_reducible rfl))
            try simp only [Act.put, List.setIfInBounds_toArray, List.set_cons_zero, List.set_cons_succ]
            refine take_to (i := 3) (d := some 67) (v := ?_) (l' := #[true, false, true, true, false, false, false, false, false, false, false, false, false, false, false]) rfl rfl (by kernel_rfl) (by kernel_rfl) (by kernel_rfl) (by kernel_rfl) (fun _ _ _ h => h) (Or.inl ⟨by rfl, ?_⟩) (by assumption) ?_; rotate_left; · (intro w' hSw; (try dsimp only at hSw); go_simp; (try with_reducible rfl))
            try simp only [Act.put, List.setIfInBounds_toArray, List.set_cons_zero, List.set_cons_succ]
            refine take_to (i := 4) (d := some 68) (v := ?_) (l' := #[true, false, true, true, true, false, false, false, false, false, false, false, false, false, false]) rfl rfl (by kernel_rfl) (by kernel_rfl) (by kernel_rfl) (by kernel_rfl) (fun _ _ _ h => h) (Or.inl ⟨by rfl, ?_⟩) (by assumption) ?_; rotate_left; · (intro w' hSw; (try dsimp only at hSw); go_simp; (try with_reducible rfl))
            try simp only [Act.put, List.setIfInBounds_toArray, List.set_cons_zero, List.set_cons_succ]
            refine take_to (i := 5) (d := some 69) (v := ?_) (l' := #[true, false, true, true, true, true, false, false, false, false, false, false, false, false, false]) rfl rfl (by kernel_rfl) (by kernel_rfl) (by kernel_rfl) (by kernel_rfl) (fun _ _ _ h => h) (Or.inl ⟨by rfl, ?_⟩) (by assumption) ?_; rotate_left; · (intro w' hSw; (try dsimp only at hSw); go_simp; (try with_reducible rfl))
            try simp only [Act.put, List.setIfInBounds_toArray, List.set_cons_zero, List.set_cons_succ]
            refine take_to (i := 6) (d := some 70) (v := ?_) (l' := #[true, false, true, true, true, true, true, false, false, false, false, false, false, false, false]) rfl rfl (by kernel_rfl) (by kernel_rfl) (by kernel_rfl) (by kernel_rfl) (fun _ _ _ h => h) (Or.inl ⟨by rfl, ?_⟩) (by assumption) ?_; rotate_left; · (intro w' hSw; (try dsimp only at hSw); go_simp; (try with_reducible rfl))
            try simp only [Act.put, List.setIfInBounds_toArray, List.set_cons_zero, List.set_cons_succ]
            refine take_to (i := 7) (d := some 71) (v := ?_) (l' := #[true, false, true, true, true, true, true, true, false, false, false, false, false, false, false]) rfl rfl (by kernel_rfl) (by kernel_rfl) (by kernel_rfl) (by kernel_rfl) (fun _ _ _ h => h) (Or.inl ⟨by rfl, ?_⟩) (by assumption) ?_; rotate_left; · (intro w' hSw; (try dsimp only at hSw); go_simp; (try with_reducible rfl))
            try simp only [Act.put, List.setIfInBounds_toArray, List.set_cons_zero, List.set_cons_succ]
            refine take_to (i := 8) (d := some 72) (v := ?_) (l' := #[true, false, true, true, true, true, true, true, true, false, false, false, false, false, false]) rfl rfl (by kernel_rfl) (by kernel_rfl) (by kernel_rfl) (by kernel_rfl) (fun _ _ _ h => h) (Or.inl ⟨by rfl, ?_⟩) (by assumption) ?_; rotate_left; · (intro w' hSw; (try dsimp only at hSw); go_simp; (try with_reducible rfl))
            try simp only [Act.put, List.setIfInBounds_toArray, List.set_cons_zero, List.set_cons_succ]
            refine take_to (i := 9) (d := some 73) (v := ?_) (l' := #[true, false, true, true, true, true, true, true, true, true, false, false, false, false, false]) rfl rfl (by kernel_rfl) (by kernel_rfl) (by kernel_rfl) (by kernel_rfl) (fun _ _ _ h => h) (Or.inl ⟨by rfl, ?_⟩) (by assumption) ?_; rotate_left; · (intro w' hSw; (try dsimp only at hSw); go_simp; (try with_reducible rfl))
            try simp only [Act.put, List.setIfInBounds_toArray, List.set_cons_zero, List.set_cons_succ]
            refine two_to (i := 1) (j := 10) (l1 := #[true, true, true, true, true, true, true, true, true, true, false, false, false, false, false]) (l2 := #[true, false, true, true, true, true, true, true, true, true, true, false, false, false, false]) rfl rfl (by kernel_rfl) (by kernel_rfl) (by kernel_rfl) (fun K hK => ?_) (fun K hK => ?_)
            · skip
              obtain ⟨y0, y1, y2, y3⟩ := HTA.out.bx
              first | have hz9 := (HTA.out.go (below_al _ (.cells #[.slice (some ⟨x, 0, none⟩) (y.ln k) (y.ln k + 12)] 22))).bx | skip
              try obtain ⟨z0, z1, z2, z3⟩ := hz9
              go_simp
              clear y0 y1 y2 y3
              try clear z0 z1 z2 z3
              refine hK.out _ _ (by first | exact HCC.out _ HTA.out.tw.bel | exact HCC.out _ (HTA.out.go (Below.refl _ _).drew).tw.bel | exact HCC.out _ (HTA.out.go (below_al _ _)).tw.bel) (fun hHeld => ?_)
              clear hK K
              try simp only [Act.put, List.setIfInBounds_toArray, List.set_cons_zero, List.set_cons_succ]
              refine one_to (i := 10) (l' := #[true, true, true, true, true, true, true, true, true, true, true, false, false, false, false]) rfl (by kernel_rfl) (by kernel_rfl) (fun K hK => ?_)
              go_simp
              refine (LentBytes.lent2 _ (y.P k) (y.ln k) (y.C k) (fun q => ub (y.f k q)) _ HLK.out (fun e => ⟨HPZ.out e, HY.out.nil.2 k hlk e⟩) (((HY.out.rows.row k hlk).below HTA.out.tw.bel).mono HTA.out.tw.bel.size) (Nat.le_refl _)).mono ?_
              rintro e w9 ⟨x, rfl, hx, hb9, ho9⟩
              have HXN := Lib.hid (show ∀ i, i < k → G i ≠ x from fun i hi e => by have := ((HTA.out.tr.row i (Nat.zero_le _) hi).lt (G i) rfl).2; omega)
              have HX := Lib.hid (owns_base ho9 HTA.out.tr.ap.2.2.2)
              replace HTA := Lib.hid (HTA.out.go hb9)
              clear hx hb9 ho9
              dsimp only
              refine hK.out _ _ (by first | exact HCC.out _ HTA.out.tw.bel | exact HCC.out _ (HTA.out.go (Below.refl _ _).drew).tw.bel | exact HCC.out _ (HTA.out.go (below_al _ _)).tw.bel) (fun hHeld => ?_)
              clear hK K
              try simp only [Act.put, List.setIfInBounds_toArray, List.set_cons_zero, List.set_cons_succ]
              refine one_to (i := 11) (l' := #[true, true, true, true, true, true, true, true, true, true, true, true, false, false, false]) rfl (by kernel_rfl) (by kernel_rfl) (fun K hK => ?_)
              go_simp
              refine hK.out _ _ (by first | exact HCC.out _ HTA.out.tw.bel | exact HCC.out _ (HTA.out.go (Below.refl _ _).drew).tw.bel | exact HCC.out _ (HTA.out.go (below_al _ _)).tw.bel) (fun hHeld => ?_)
              clear hK K
              try simp only [Act.put, List.setIfInBounds_toArray, List.set_cons_zero, List.set_cons_succ]
              refine one_to (i := 12) (l' := #[true, true, true, true, true, true, true, true, true, true, true, true, true, false, false]) rfl (by kernel_rfl) (by kernel_rfl) (fun K hK => ?_)
              obtain ⟨v2, w10, hrun, htw, hyx, hta2⟩ := HTA.out.append x HXN.out 36 HX.out (by omega)
              obtain ⟨pv, cv, rfl, _⟩ := owns_reads hta2.tr.own
              refine Lib.wp_append_run _ _ _ _ _ rfl _ _ rfl rfl _ w10 hrun ?_
              have HTW := Lib.hid htw
              have HYX := Lib.hid hyx
              have HTA2 := Lib.hid hta2
              clear hrun htw hyx hta2
              refine hK.out _ _ (by exact HCC.out _ HTW.out.bel) (fun hHeld => ?_)
              clear hK K
              try simp only [Act.put, List.setIfInBounds_toArray, List.set_cons_zero, List.set_cons_succ]
              refine take_to (i := 13) (d := some 77) (v := ?_) (l' := #[true, true, true, true, true, true, true, true, true, true, true, true, true, true, false]) rfl rfl (by kernel_rfl) (by kernel_rfl) (by kernel_rfl) (by kernel_rfl) (fun _ _ _ h => h) (Or.inl ⟨by rfl, ?_⟩) (by assumption) ?_; rotate_left; · (intro w' hSw; (try dsimp only at hSw); go_simp; (try with_reducible rfl))
              try simp only [Act.put, List.setIfInBounds_toArray, List.set_cons_zero, List.set_cons_succ]
              refine one_to (i := 14) (l' := #[true, true, true, true, true, true, true, true, true, true, true, true, true, true, true]) rfl (by kernel_rfl) (by kernel_rfl) (fun K hK => ?_)
              obtain ⟨y0, y1, y2, y3⟩ := row4 HYX.out
              have yf2 := frozen_of_row w10 b1 2 _ _ HYX.out
              have yz := (Array.getElem?_eq_some_iff.1 HYX.out).1
              go_simp
              clear y0 y1 y2 y3 yf2 yz
              generalize w10.setCell ⟨b1, 2, none⟩ (.slice pv (k + 1) cv) = w11 at *
              refine hK.out _ _ (by exact HCC.out _ HTA2.out.tw.bel) (fun hHeld => ?_)
              clear hK K
              try simp only [Act.put, List.setIfInBounds_toArray, List.set_cons_zero, List.set_cons_succ]
              refine wpAnyH_done (by kernel_rfl) ?_ _
              refine NoPanic.normal ?_
              clear hHeld
              go_wp2
              go_roundw
              case rel => exact ⟨k + 1, by omega, by go_num, _, upd' G k x, HTA2.out⟩
              case measure => simp [intOf]; omega
            · skip
              go_simp
              refine (LentBytes.lent2 _ (y.P k) (y.ln k) (y.C k) (fun q => ub (y.f k q)) _ HLK.out (fun e => ⟨HPZ.out e, HY.out.nil.2 k hlk e⟩) (((HY.out.rows.row k hlk).below HTA.out.tw.bel).mono HTA.out.tw.bel.size) (Nat.le_refl _)).mono ?_
              rintro e w9 ⟨x, rfl, hx, hb9, ho9⟩
              have HXN := Lib.hid (show ∀ i, i < k → G i ≠ x from fun i hi e => by have := ((HTA.out.tr.row i (Nat.zero_le _) hi).lt (G i) rfl).2; omega)
              have HX := Lib.hid (owns_base ho9 HTA.out.tr.ap.2.2.2)
              replace HTA := Lib.hid (HTA.out.go hb9)
              clear hx hb9 ho9
              dsimp only
              refine hK.out _ _ (by first | exact HCC.out _ HTA.out.tw.bel | exact HCC.out _ (HTA.out.go (Below.refl _ _).drew).tw.bel | exact HCC.out _ (HTA.out.go (below_al _ _)).tw.bel) (fun hHeld => ?_)
              clear hK K
              try simp only [Act.put, List.setIfInBounds_toArray, List.set_cons_zero, List.set_cons_succ]
              refine two_to (i := 1) (j := 11) (l1 := #[true, true, true, true, true, true, true, true, true, true, true, false, false, false, false]) (l2 := #[true, false, true, true, true, true, true, true, true, true, true, true, false, false, false]) rfl rfl (by kernel_rfl) (by kernel_rfl) (by kernel_rfl) (fun K hK => ?_) (fun K hK => ?_)
              · skip
                obtain ⟨y0, y1, y2, y3⟩ := HTA.out.bx
                first | have hz9 := (HTA.out.go (below_al _ (.cells #[.slice (some ⟨x, 0, none⟩) (y.ln k) (y.ln k + 12)] 22))).bx | skip
                try obtain ⟨z0, z1, z2, z3⟩ := hz9
                go_simp
                clear y0 y1 y2 y3
                try clear z0 z1 z2 z3
                refine hK.out _ _ (by first | exact HCC.out _ HTA.out.tw.bel | exact HCC.out _ (HTA.out.go (Below.refl _ _).drew).tw.bel | exact HCC.out _ (HTA.out.go (below_al _ _)).tw.bel) (fun hHeld => ?_)
                clear hK K
                try simp only [Act.put, List.setIfInBounds_toArray, List.set_cons_zero, List.set_cons_succ]
                refine one_to (i := 11) (l' := #[true, true, true, true, true, true, true, true, true, true, true, true, false, false, false]) rfl (by kernel_rfl) (by kernel_rfl) (fun K hK => ?_)
                go_simp
                refine hK.out _ _ (by first | exact HCC.out _ HTA.out.tw.bel | exact HCC.out _ (HTA.out.go (Below.refl _ _).drew).tw.bel | exact HCC.out _ (HTA.out.go (below_al _ _)).tw.bel) (fun hHeld => ?_)
                clear hK K
                try simp only [Act.put, List.setIfInBounds_toArray, List.set_cons_zero, List.set_cons_succ]
                refine one_to (i := 12) (l' := #[true, true, true, true, true, true, true, true, true, true, true, true, true, false, false]) rfl (by kernel_rfl) (by kernel_rfl) (fun K hK => ?_)
                obtain ⟨v2, w10, hrun, htw, hyx, hta2⟩ := HTA.out.append x HXN.out 36 HX.out (by omega)
                obtain ⟨pv, cv, rfl, _⟩ := owns_reads hta2.tr.own
                refine Lib.wp_append_run _ _ _ _ _ rfl _ _ rfl rfl _ w10 hrun ?_
                have HTW := Lib.hid htw
                have HYX := Lib.hid hyx
                have HTA2 := Lib.hid hta2
                clear hrun htw hyx hta2
                refine hK.out _ _ (by exact HCC.out _ HTW.out.bel) (fun hHeld => ?_)
                clear hK K
                try simp only [Act.put, List.setIfInBounds_toArray, List.set_cons_zero, List.set_cons_succ]
                refine take_to (i := 13) (d := some 77) (v := ?_) (l' := #[true, true, true, true, true, true, true, true, true, true, true, true, true, true, false]) rfl rfl (by kernel_rfl) (by kernel_rfl) (by kernel_rfl) (by kernel_rfl) (fun _ _ _ h => h) (Or.inl ⟨by rfl, ?_⟩) (by assumption) ?_; rotate_left; · (intro w' hSw; (try dsimp only at hSw); go_simp; (try with_reducible rfl))
                try simp only [Act.put, List.setIfInBounds_toArray, List.set_cons_zero, List.set_cons_succ]
                refine one_to (i := 14) (l' := #[true, true, true, true, true, true, true, true, true, true, true, true, true, true, true]) rfl (by kernel_rfl) (by kernel_rfl) (fun K hK => ?_)
                obtain ⟨y0, y1, y2, y3⟩ := row4 HYX.out
                have yf2 := frozen_of_row w10 b1 2 _ _ HYX.out
                have yz := (Array.getElem?_eq_some_iff.1 HYX.out).1
                go_simp
                clear y0 y1 y2 y3 yf2 yz
                generalize w10.setCell ⟨b1, 2, none⟩ (.slice pv (k + 1) cv) = w11 at *
                refine hK.out _ _ (by exact HCC.out _ HTA2.out.tw.bel) (fun hHeld => ?_)
                clear hK K
                try simp only [Act.put, List.setIfInBounds_toArray, List.set_cons_zero, List.set_cons_succ]
                refine wpAnyH_done (by kernel_rfl) ?_ _
                refine NoPanic.normal ?_
                clear hHeld
                go_wp2
                go_roundw
                case rel => exact ⟨k + 1, by omega, by go_num, _, upd' G k x, HTA2.out⟩
                case measure => simp [intOf]; omega
              · skip
                go_simp
                refine hK.out _ _ (by first | exact HCC.out _ HTA.out.tw.bel | exact HCC.out _ (HTA.out.go (Below.refl _ _).drew).tw.bel | exact HCC.out _ (HTA.out.go (below_al _ _)).tw.bel) (fun hHeld => ?_)
                clear hK K
                try simp only [Act.put, List.setIfInBounds_toArray, List.set_cons_zero, List.set_cons_succ]
                refine one_to (i := 1) (l' := #[true, true, true, true, true, true, true, true, true, true, true, true, false, false, false]) rfl (by kernel_rfl) (by kernel_rfl) (fun K hK => ?_)
                obtain ⟨y0, y1, y2, y3⟩ := HTA.out.bx
                first | have hz9 := (HTA.out.go (below_al _ (.cells #[.slice (some ⟨x, 0, none⟩) (y.ln k) (y.ln k + 12)] 22))).bx | skip
                try obtain ⟨z0, z1, z2, z3⟩ := hz9
                go_simp
                clear y0 y1 y2 y3
                try clear z0 z1 z2 z3
                refine hK.out _ _ (by first | exact HCC.out _ HTA.out.tw.bel | exact HCC.out _ (HTA.out.go (Below.refl _ _).drew).tw.bel | exact HCC.out _ (HTA.out.go (below_al _ _)).tw.bel) (fun hHeld => ?_)
                clear hK K
                try simp only [Act.put, List.setIfInBounds_toArray, List.set_cons_zero, List.set_cons_succ]
                refine one_to (i := 12) (l' := #[true, true, true, true, true, true, true, true, true, true, true, true, true, false, false]) rfl (by kernel_rfl) (by kernel_rfl) (fun K hK => ?_)
                obtain ⟨v2, w10, hrun, htw, hyx, hta2⟩ := HTA.out.append x HXN.out 36 HX.out (by omega)
                obtain ⟨pv, cv, rfl, _⟩ := owns_reads hta2.tr.own
                refine Lib.wp_append_run _ _ _ _ _ rfl _ _ rfl rfl _ w10 hrun ?_
                have HTW := Lib.hid htw
                have HYX := Lib.hid hyx
                have HTA2 := Lib.hid hta2
                clear hrun htw hyx hta2
                refine hK.out _ _ (by exact HCC.out _ HTW.out.bel) (fun hHeld => ?_)
                clear hK K
                try simp only [Act.put, List.setIfInBounds_toArray, List.set_cons_zero, List.set_cons_succ]
                refine take_to (i := 13) (d := some 77) (v := ?_) (l' := #[true, true, true, true, true, true, true, true, true, true, true, true, true, true, false]) rfl rfl (by kernel_rfl) (by kernel_rfl) (by kernel_rfl) (by kernel_rfl) (fun _ _ _ h => h) (Or.inl ⟨by rfl, ?_⟩) (by assumption) ?_; rotate_left; · (intro w' hSw; (try dsimp only at hSw); go_simp; (try with_reducible rfl))
                try simp only [Act.put, List.setIfInBounds_toArray, List.set_cons_zero, List.set_cons_succ]
                refine one_to (i := 14) (l' := #[true, true, true, true, true, true, true, true, true, true, true, true, true, true, true]) rfl (by kernel_rfl) (by kernel_rfl) (fun K hK => ?_)
                obtain ⟨y0, y1, y2, y3⟩ := row4 HYX.out
                have yf2 := frozen_of_row w10 b1 2 _ _ HYX.out
                have yz := (Array.getElem?_eq_some_iff.1 HYX.out).1
                go_simp
                clear y0 y1 y2 y3 yf2 yz
                generalize w10.setCell ⟨b1, 2, none⟩ (.slice pv (k + 1) cv) = w11 at *
                refine hK.out _ _ (by exact HCC.out _ HTA2.out.tw.bel) (fun hHeld => ?_)
                clear hK K
                try simp only [Act.put, List.setIfInBounds_toArray, List.set_cons_zero, List.set_cons_succ]
                refine wpAnyH_done (by kernel_rfl) ?_ _
                refine NoPanic.normal ?_
                clear hHeld
                go_wp2
                go_roundw
                case rel => exact ⟨k + 1, by omega, by go_num, _, upd' G k x, HTA2.out⟩
                case measure => simp [intOf]; omega
          · have hkm : k = y.m := by omega
            subst hkm
            obtain ⟨pv, cv, hv, _⟩ := owns_reads HTA.out.tr.own
            subst hv
            obtain ⟨s, hs⟩ : ∃ s, s = tgA d.real d.sd d.sm L y := ⟨_, rfl⟩
            obtain ⟨L2, hL2⟩ : ∃ L2, L2 = nxA d.real L y := ⟨_, rfl⟩
            have HW := Lib.hid HTA.out.tw
            have HTR := Lib.hid HTA.out.tr
            have HKY := Lib.hid HTA.out.ky
            have HB0 := Lib.hid HTA.out.hb
            have HNB := Lib.hid (show ∀ k, b1 ≤ k → ¬ k = d.B from fun k hk e => by have := HW.out.hi.2.1; have := HB0.out; omega)
            have HNR := Lib.hid (show ∀ k, b1 ≤ k → ¬ (k = d.rb ∨ some k = av.ownBlock) from fun k hk e => by
              rcases e with e | e
              · have := HW.out.hi.2.2; have := HB0.out; omega
              · have := HTA.out.av1 k e.symm; omega)
            obtain ⟨b3, hb3⟩ : ∃ b3, b3 = wr.heap.size := ⟨_, rfl⟩
            have HUP := Lib.hid (show Up4 b3 b1 gk (.slice pv y.m cv) y.m G by rw [hb3]; exact HTR.out.up)
            have HS3 := Lib.hid (Nat.le_of_eq hb3)
            have HB13 := Lib.hid (Nat.le_of_lt HUP.out.1)
            have HPL := Lib.hid (show d.real = false → 0 < L2.length from fun e => by rw [hL2]; exact nxA_pos d.real L y e)
            have HAM := Lib.hid (show ∀ W, TW4 d w av L L W → TR4 b1 b2 b1 gk y (.slice pv y.m cv) y.m 0 G W → KY4 b1 gk y W → Calls Tryz.prog 10 #[.pointer (some ⟨d.mb, 0, none⟩), .agg #[.int .i64 y.what, .slice (some ⟨gk, 0, none⟩) y.kn (y.kn + 12), .slice pv y.m cv, .int .i64 y.k]] W fun e w' => e = .returned (tagV s) ∧ W.grownBy w' (some d.B) ∧ BK w' d.B L2 from fun W h1 h2 h3 => by
              obtain ⟨hz, hzs⟩ := h2.lies h3 hyt HY.out.k
              rw [hs, hL2]
              exact h1.askM HK.out (by omega) s2 (y.lent gk pv cv G) hz hzs)
            have HAR := Lib.hid (show ∀ W, TW4 d w av L2 L W → Calls Tryz.prog 11 #[.pointer (some ⟨d.rb, 0, none⟩), .agg #[.int .i64 y.what, .slice y.kp y.kn y.kc, .slice y.p y.m y.c, .int .i64 y.k]] W fun e w' => ∃ av', e = .returned (tagV s) ∧ Rch d.rb av.ownBlock W w' ∧ TW4 d w av' L2 L2 w' from fun W h1 => by
              have h2 := h1.askR (by omega) s2 HSR.out HSZ.out.2 y (HY.out.lies hyt) (HY.out.small hyt)
              rw [← hs, ← hL2] at h2
              exact h2)
            have HL2 := Lib.hid (show L2.length ≤ i + 1 by rw [hL2]; exact Nat.le_trans (nxA_le d.real L y) (by omega))
            clear hs hL2 hb3 HTA hk hlk
            go_upto_region 16 with (fail)
            clear c0 c1 c2 c3
            go_cut [15, 16] from 78 to 86 (fun va vb wx => ∃ ta tb av', va = .pointer (some ⟨ta, 0, none⟩) ∧ vb = .pointer (some ⟨tb, 0, none⟩) ∧ TW4 d w av' L2 L2 wx ∧ TR4 b1 b2 b1 gk y (.slice pv y.m cv) y.m 0 G wx ∧ KY4 b1 gk y wx ∧ BT wx ta 32 s ∧ BT wx tb 32 s)
            case first =>
              refine wp_region_noPanic ?_
              refine wp_region_start (n := 13) (l := #[false, false, false, false, false, false, false, false, false, false, false, false, false]) (S := (fun W => (W.cell? ⟨b1, 0, none⟩ = some (.int .i64 y.what) ∧ W.cell? ⟨b1, 1, none⟩ = some (.slice (some ⟨gk, 0, none⟩) y.kn (y.kn + 12)) ∧ W.cell? ⟨b1, 2, none⟩ = some (.slice pv y.m cv) ∧ W.cell? ⟨b1, 3, none⟩ = some (.int .i64 y.k)) ∧ W.cell? ⟨b, off + i * 4, none⟩ = some (.int .i64 y.what) ∧ W.cell? ⟨b, off + i * 4 + 1, none⟩ = some (.slice y.kp y.kn y.kc) ∧ W.cell? ⟨b, off + i * 4 + 2, none⟩ = some (.slice y.p y.m y.c) ∧ W.cell? ⟨b, off + i * 4 + 3, none⟩ = some (.int .i64 y.k))) (by kernel_rfl) rfl (by kernel_rfl) (by first | exact ⟨row4 HTR.out.yx, HAT.out _ HW.out.bel⟩ | exact ⟨row4 (HTR.out.go (Below.refl _ _).drew).yx, HAT.out _ HW.out.drew.bel⟩) (fun hHeld => ?_)
              replace HW := Lib.hid HW.out.drew
              replace HTR := Lib.hid (HTR.out.go (Below.refl _ _).drew)
              replace HKY := Lib.hid (HKY.out.go (Below.refl _ _).drew)
              replace HS3 := Lib.hid (show b3 ≤ wr.drew.heap.size from HS3.out)
              generalize World.drew _ = w14 at hHeld HW HTR HKY HS3 ⊢
              refine take_to (i := 0) (d := some 78) (v := ?_) (l' := #[true, false, false, false, false, false, false, false, false, false, false, false, false]) rfl rfl (by kernel_rfl) (by kernel_rfl) (by kernel_rfl) (by kernel_rfl) (fun _ _ _ h => h) (Or.inl ⟨by rfl, ?_⟩) (by assumption) ?_; rotate_left; · (intro w' hSw; (try dsimp only at hSw); go_simp; (try with_reducible rfl))
              try simp only [Act.put, List.setIfInBounds_toArray, List.set_cons_zero, List.set_cons_succ]
              refine take_to (i := 1) (d := some 79) (v := ?_) (l' := #[true, true, false, false, false, false, false, false, false, false, false, false, false]) rfl rfl (by kernel_rfl) (by kernel_rfl) (by kernel_rfl) (by kernel_rfl) (fun _ _ _ h => h) (Or.inl ⟨by rfl, ?_⟩) (by assumption) ?_; rotate_left; · (intro w' hSw; (try dsimp only at hSw); go_simp; (try with_reducible rfl))
              try simp only [Act.put, List.setIfInBounds_toArray, List.set_cons_zero, List.set_cons_succ]
              refine take_to (i := 3) (d := some 81) (v := ?_) (l' := #[true, true, false, true, false, false, false, false, false, false, false, false, false]) rfl rfl (by kernel_rfl) (by kernel_rfl) (by kernel_rfl) (by kernel_rfl) (fun _ _ _ h => h) (Or.inl ⟨by rfl, ?_⟩) (by assumption) ?_; rotate_left; · (intro w' hSw; (try dsimp only at hSw); go_simp; (try with_reducible rfl))
              try simp only [Act.put, List.setIfInBounds_toArray, List.set_cons_zero, List.set_cons_succ]
              refine take_to (i := 4) (d := some 82) (v := ?_) (l' := #[true, true, false, true, true, false, false, false, false, false, false, false, false]) rfl rfl (by kernel_rfl) (by kernel_rfl) (by kernel_rfl) (by kernel_rfl) (fun _ _ _ h => h) (Or.inl ⟨by rfl, ?_⟩) (by assumption) ?_; rotate_left; · (intro w' hSw; (try dsimp only at hSw); go_simp; (try with_reducible rfl))
              try simp only [Act.put, List.setIfInBounds_toArray, List.set_cons_zero, List.set_cons_succ]
              refine take_to (i := 5) (d := some 83) (v := ?_) (l' := #[true, true, false, true, true, true, false, false, false, false, false, false, false]) rfl rfl (by kernel_rfl) (by kernel_rfl) (by kernel_rfl) (by kernel_rfl) (fun _ _ _ h => h) (Or.inl ⟨by rfl, ?_⟩) (by assumption) ?_; rotate_left; · (intro w' hSw; (try dsimp only at hSw); go_simp; (try with_reducible rfl))
              try simp only [Act.put, List.setIfInBounds_toArray, List.set_cons_zero, List.set_cons_succ]
              refine take_to (i := 6) (d := some 84) (v := ?_) (l' := #[true, true, false, true, true, true, true, false, false, false, false, false, false]) rfl rfl (by kernel_rfl) (by kernel_rfl) (by kernel_rfl) (by kernel_rfl) (fun _ _ _ h => h) (Or.inl ⟨by rfl, ?_⟩) (by assumption) ?_; rotate_left; · (intro w' hSw; (try dsimp only at hSw); go_simp; (try with_reducible rfl))
              try simp only [Act.put, List.setIfInBounds_toArray, List.set_cons_zero, List.set_cons_succ]
              refine take_to (i := 7) (d := some 85) (v := ?_) (l' := #[true, true, false, true, true, true, true, true, false, false, false, false, false]) rfl rfl (by kernel_rfl) (by kernel_rfl) (by kernel_rfl) (by kernel_rfl) (fun _ _ _ h => h) (Or.inl ⟨by rfl, ?_⟩) (by assumption) ?_; rotate_left; · (intro w' hSw; (try dsimp only at hSw); go_simp; (try with_reducible rfl))
              try simp only [Act.put, List.setIfInBounds_toArray, List.set_cons_zero, List.set_cons_succ]
              refine three_to (i := 2) (j := 9) (k := 10) (l1 := #[true, true, true, true, true, true, true, true, false, false, false, false, false]) (l2 := #[true, true, false, true, true, true, true, true, false, true, false, false, false]) (l3 := #[true, true, false, true, true, true, true, true, false, false, true, false, false]) rfl rfl rfl (by kernel_rfl) (by kernel_rfl) (by kernel_rfl) (by kernel_rfl) (fun K hK => ?_) (fun K hK => ?_) (fun K hK => ?_)
              · skip
                go_simp
                refine (HAM.out w14 HW.out HTR.out HKY.out).mono ?_
                rintro e w15 ⟨rfl, g15, k15⟩
                replace HTR := Lib.hid (HTR.out.ch (Ch.gr g15) HNB.out)
                replace HKY := Lib.hid (KY4.ch HKY.out (Ch.gr g15) HNB.out)
                try replace HTa := Lib.hid (And.intro (HTa.out.1.gr g15 (HNB.out _ (Nat.le_trans HB13.out HTa.out.2))) HTa.out.2)
                try replace HTb := Lib.hid (And.intro (HTb.out.1.gr g15 (HNB.out _ (Nat.le_trans HB13.out HTb.out.2))) HTb.out.2)
                replace HW := Lib.hid (HW.out.told g15 k15)
                replace HS3 := Lib.hid (Nat.le_trans HS3.out g15.size)
                clear g15 k15
                rename World => w14
                dsimp only
                refine hK.out _ _ (by first | exact ⟨row4 HTR.out.yx, HAT.out _ HW.out.bel⟩ | exact ⟨row4 (HTR.out.go (Below.refl _ _).drew).yx, HAT.out _ HW.out.drew.bel⟩) (fun hHeld => ?_)
                clear hK K
                try simp only [Act.put, List.setIfInBounds_toArray, List.set_cons_zero, List.set_cons_succ]
                refine three_to (i := 8) (j := 9) (k := 10) (l1 := #[true, true, true, true, true, true, true, true, true, false, false, false, false]) (l2 := #[true, true, true, true, true, true, true, true, false, true, false, false, false]) (l3 := #[true, true, true, true, true, true, true, true, false, false, true, false, false]) rfl rfl rfl (by kernel_rfl) (by kernel_rfl) (by kernel_rfl) (by kernel_rfl) (fun K hK => ?_) (fun K hK => ?_) (fun K hK => ?_)
                · skip
                  go_simp
                  refine (HAR.out w14 HW.out).mono ?_
                  rintro e w15 ⟨av2, rfl, g15, k15⟩
                  replace HTR := Lib.hid (HTR.out.ch (Ch.rch g15) HNR.out)
                  replace HKY := Lib.hid (KY4.ch HKY.out (Ch.rch g15) HNR.out)
                  try replace HTa := Lib.hid (And.intro (g15.bt HTa.out.1 (fun e => HNR.out _ (Nat.le_trans HB13.out HTa.out.2) (.inl e)) (fun e => HNR.out _ (Nat.le_trans HB13.out HTa.out.2) (.inr e))) HTa.out.2)
                  try replace HTb := Lib.hid (And.intro (g15.bt HTb.out.1 (fun e => HNR.out _ (Nat.le_trans HB13.out HTb.out.2) (.inl e)) (fun e => HNR.out _ (Nat.le_trans HB13.out HTb.out.2) (.inr e))) HTb.out.2)
                  replace HW := Lib.hid k15
                  replace HS3 := Lib.hid (Nat.le_trans HS3.out g15.size)
                  clear g15 k15
                  rename World => w14
                  dsimp only
                  refine hK.out _ _ (by first | exact ⟨row4 HTR.out.yx, HAT.out _ HW.out.bel⟩ | exact ⟨row4 (HTR.out.go (Below.refl _ _).drew).yx, HAT.out _ HW.out.drew.bel⟩) (fun hHeld => ?_)
                  clear hK K
                  try simp only [Act.put, List.setIfInBounds_toArray, List.set_cons_zero, List.set_cons_succ]
                  refine two_to (i := 9) (j := 10) (l1 := #[true, true, true, true, true, true, true, true, true, true, false, false, false]) (l2 := #[true, true, true, true, true, true, true, true, true, false, true, false, false]) rfl rfl (by kernel_rfl) (by kernel_rfl) (by kernel_rfl) (fun K hK => ?_) (fun K hK => ?_)
                  · skip
                    go_simp
                    have hal := below_al w14 (.cells #[Value.int .u8 0, Value.int .u8 0, Value.int .u8 0, Value.int .u8 0, Value.int .u8 0, Value.int .u8 0, Value.int .u8 0, Value.int .u8 0, Value.int .u8 0, Value.int .u8 0, Value.int .u8 0, Value.int .u8 0, Value.int .u8 0, Value.int .u8 0, Value.int .u8 0, Value.int .u8 0, Value.int .u8 0, Value.int .u8 0, Value.int .u8 0, Value.int .u8 0, Value.int .u8 0, Value.int .u8 0, Value.int .u8 0, Value.int .u8 0, Value.int .u8 0, Value.int .u8 0, Value.int .u8 0, Value.int .u8 0, Value.int .u8 0, Value.int .u8 0, Value.int .u8 0, Value.int .u8 0] 25)
                    have hbt := BT.of_cells (n := 32) (f := fun _ => 0#8) (laid_at (W := w14) (o := (.cells #[Value.int .u8 0, Value.int .u8 0, Value.int .u8 0, Value.int .u8 0, Value.int .u8 0, Value.int .u8 0, Value.int .u8 0, Value.int .u8 0, Value.int .u8 0, Value.int .u8 0, Value.int .u8 0, Value.int .u8 0, Value.int .u8 0, Value.int .u8 0, Value.int .u8 0, Value.int .u8 0, Value.int .u8 0, Value.int .u8 0, Value.int .u8 0, Value.int .u8 0, Value.int .u8 0, Value.int .u8 0, Value.int .u8 0, Value.int .u8 0, Value.int .u8 0, Value.int .u8 0, Value.int .u8 0, Value.int .u8 0, Value.int .u8 0, Value.int .u8 0, Value.int .u8 0, Value.int .u8 0] 25)) rfl) (fun i hi => zero_atL 32 i hi)
                    replace HW := Lib.hid (HW.out.go hal)
                    replace HTR := Lib.hid (HTR.out.go hal)
                    replace HKY := Lib.hid (HKY.out.go hal)
                    try have HAB := Lib.hid (show w14.heap.size ≠ tb from Ne.symm (Nat.ne_of_lt HTb.out.1.lt))
                    try replace HTb := Lib.hid (And.intro (HTb.out.1.below' hal) HTb.out.2)
                    have HTa := Lib.hid (And.intro hbt (HS3.out))
                    replace HS3 := Lib.hid (Nat.le_trans HS3.out hal.size)
                    clear hal hbt
                    generalize w14.alloc (.cells #[Value.int .u8 0, Value.int .u8 0, Value.int .u8 0, Value.int .u8 0, Value.int .u8 0, Value.int .u8 0, Value.int .u8 0, Value.int .u8 0, Value.int .u8 0, Value.int .u8 0, Value.int .u8 0, Value.int .u8 0, Value.int .u8 0, Value.int .u8 0, Value.int .u8 0, Value.int .u8 0, Value.int .u8 0, Value.int .u8 0, Value.int .u8 0, Value.int .u8 0, Value.int .u8 0, Value.int .u8 0, Value.int .u8 0, Value.int .u8 0, Value.int .u8 0, Value.int .u8 0, Value.int .u8 0, Value.int .u8 0, Value.int .u8 0, Value.int .u8 0, Value.int .u8 0, Value.int .u8 0] 25) = w15 at *
                    generalize w14.heap.size = ta at *
                    rename World => w14
                    refine hK.out _ _ (by first | exact ⟨row4 HTR.out.yx, HAT.out _ HW.out.bel⟩ | exact ⟨row4 (HTR.out.go (Below.refl _ _).drew).yx, HAT.out _ HW.out.drew.bel⟩) (fun hHeld => ?_)
                    clear hK K
                    try simp only [Act.put, List.setIfInBounds_toArray, List.set_cons_zero, List.set_cons_succ]
                    refine one_to (i := 10) (l' := #[true, true, true, true, true, true, true, true, true, true, true, false, false]) rfl (by kernel_rfl) (by kernel_rfl) (fun K hK => ?_)
                    go_simp
                    have hal := below_al w14 (.cells #[Value.int .u8 0, Value.int .u8 0, Value.int .u8 0, Value.int .u8 0, Value.int .u8 0, Value.int .u8 0, Value.int .u8 0, Value.int .u8 0, Value.int .u8 0, Value.int .u8 0, Value.int .u8 0, Value.int .u8 0, Value.int .u8 0, Value.int .u8 0, Value.int .u8 0, Value.int .u8 0, Value.int .u8 0, Value.int .u8 0, Value.int .u8 0, Value.int .u8 0, Value.int .u8 0, Value.int .u8 0, Value.int .u8 0, Value.int .u8 0, Value.int .u8 0, Value.int .u8 0, Value.int .u8 0, Value.int .u8 0, Value.int .u8 0, Value.int .u8 0, Value.int .u8 0, Value.int .u8 0] 25)
                    have hbt := BT.of_cells (n := 32) (f := fun _ => 0#8) (laid_at (W := w14) (o := (.cells #[Value.int .u8 0, Value.int .u8 0, Value.int .u8 0, Value.int .u8 0, Value.int .u8 0, Value.int .u8 0, Value.int .u8 0, Value.int .u8 0, Value.int .u8 0, Value.int .u8 0, Value.int .u8 0, Value.int .u8 0, Value.int .u8 0, Value.int .u8 0, Value.int .u8 0, Value.int .u8 0, Value.int .u8 0, Value.int .u8 0, Value.int .u8 0, Value.int .u8 0, Value.int .u8 0, Value.int .u8 0, Value.int .u8 0, Value.int .u8 0, Value.int .u8 0, Value.int .u8 0, Value.int .u8 0, Value.int .u8 0, Value.int .u8 0, Value.int .u8 0, Value.int .u8 0, Value.int .u8 0] 25)) rfl) (fun i hi => zero_atL 32 i hi)
                    replace HW := Lib.hid (HW.out.go hal)
                    replace HTR := Lib.hid (HTR.out.go hal)
                    replace HKY := Lib.hid (HKY.out.go hal)
                    try have HAB := Lib.hid (show ta ≠ w14.heap.size from Nat.ne_of_lt HTa.out.1.lt)
                    try replace HTa := Lib.hid (And.intro (HTa.out.1.below' hal) HTa.out.2)
                    have HTb := Lib.hid (And.intro hbt (HS3.out))
                    replace HS3 := Lib.hid (Nat.le_trans HS3.out hal.size)
                    clear hal hbt
                    generalize w14.alloc (.cells #[Value.int .u8 0, Value.int .u8 0, Value.int .u8 0, Value.int .u8 0, Value.int .u8 0, Value.int .u8 0, Value.int .u8 0, Value.int .u8 0, Value.int .u8 0, Value.int .u8 0, Value.int .u8 0, Value.int .u8 0, Value.int .u8 0, Value.int .u8 0, Value.int .u8 0, Value.int .u8 0, Value.int .u8 0, Value.int .u8 0, Value.int .u8 0, Value.int .u8 0, Value.int .u8 0, Value.int .u8 0, Value.int .u8 0, Value.int .u8 0, Value.int .u8 0, Value.int .u8 0, Value.int .u8 0, Value.int .u8 0, Value.int .u8 0, Value.int .u8 0, Value.int .u8 0, Value.int .u8 0] 25) = w15 at *
                    generalize w14.heap.size = tb at *
                    rename World => w14
                    refine hK.out _ _ (by first | exact ⟨row4 HTR.out.yx, HAT.out _ HW.out.bel⟩ | exact ⟨row4 (HTR.out.go (Below.refl _ _).drew).yx, HAT.out _ HW.out.drew.bel⟩) (fun hHeld => ?_)
                    clear hK K
                    try simp only [Act.put, List.setIfInBounds_toArray, List.set_cons_zero, List.set_cons_succ]
                    refine one_to (i := 11) (l' := #[true, true, true, true, true, true, true, true, true, true, true, true, false]) rfl (by kernel_rfl) (by kernel_rfl) (fun K hK => ?_)
                    refine wp_store_mid 25 _ _ rfl ta 0 (tagC s).toArray rfl rfl (by simpa [tagC_len] using HTa.out.1.there 32 (Nat.le_refl _)) (by simp [infoTag, tagC_len]) (tagC_one _) ?_
                    rw [List.toList_toArray]
                    have gs := gr_setCells (hb := ta) (tagC s) 0 w14
                    have hbt := HTa.out.1.setFirst (f' := s) 32 (Nat.le_refl _) (tagC s) rfl (fun j h1 h2 => by omega)
                    replace HW := Lib.hid (HW.out.ch (Ch.gr gs) (fun k hk e => by have e : k = ta := e; have := HTa.out.2; have := HB0.out; have := HB13.out; omega) (fun q hq e => HW.out.off HTa.out.1 HPL.out (by rw [hq, e])))
                    replace HTR := Lib.hid (HTR.out.tag HUP.out HTa.out.2 gs)
                    replace HKY := Lib.hid (KY4.tag HKY.out HUP.out.2.1 HTa.out.2 gs)
                    replace HTb := Lib.hid (And.intro (HTb.out.1.gr gs HAB.out.symm) HTb.out.2)
                    replace HTa := Lib.hid (And.intro hbt HTa.out.2)
                    replace HS3 := Lib.hid (Nat.le_trans HS3.out gs.size)
                    clear gs hbt
                    generalize w14.setCells ta 0 (tagC s) = w15 at *
                    rename World => w14
                    refine hK.out _ _ (by first | exact ⟨row4 HTR.out.yx, HAT.out _ HW.out.bel⟩ | exact ⟨row4 (HTR.out.go (Below.refl _ _).drew).yx, HAT.out _ HW.out.drew.bel⟩) (fun hHeld => ?_)
                    clear hK K
                    try simp only [Act.put, List.setIfInBounds_toArray, List.set_cons_zero, List.set_cons_succ]
                    refine one_to (i := 12) (l' := #[true, true, true, true, true, true, true, true, true, true, true, true, true]) rfl (by kernel_rfl) (by kernel_rfl) (fun K hK => ?_)
                    refine wp_store_mid 25 _ _ rfl tb 0 (tagC s).toArray rfl rfl (by simpa [tagC_len] using HTb.out.1.there 32 (Nat.le_refl _)) (by simp [infoTag, tagC_len]) (tagC_one _) ?_
                    rw [List.toList_toArray]
                    have gs := gr_setCells (hb := tb) (tagC s) 0 w14
                    have hbt := HTb.out.1.setFirst (f' := s) 32 (Nat.le_refl _) (tagC s) rfl (fun j h1 h2 => by omega)
                    replace HW := Lib.hid (HW.out.ch (Ch.gr gs) (fun k hk e => by have e : k = tb := e; have := HTb.out.2; have := HB0.out; have := HB13.out; omega) (fun q hq e => HW.out.off HTb.out.1 HPL.out (by rw [hq, e])))
                    replace HTR := Lib.hid (HTR.out.tag HUP.out HTb.out.2 gs)
                    replace HKY := Lib.hid (KY4.tag HKY.out HUP.out.2.1 HTb.out.2 gs)
                    replace HTa := Lib.hid (And.intro (HTa.out.1.gr gs HAB.out) HTa.out.2)
                    replace HTb := Lib.hid (And.intro hbt HTb.out.2)
                    replace HS3 := Lib.hid (Nat.le_trans HS3.out gs.size)
                    clear gs hbt
                    generalize w14.setCells tb 0 (tagC s) = w15 at *
                    rename World => w14
                    refine hK.out _ _ (by first | exact ⟨row4 HTR.out.yx, HAT.out _ HW.out.bel⟩ | exact ⟨row4 (HTR.out.go (Below.refl _ _).drew).yx, HAT.out _ HW.out.drew.bel⟩) (fun hHeld => ?_)
                    clear hK K
                    try simp only [Act.put, List.setIfInBounds_toArray, List.set_cons_zero, List.set_cons_succ]
                    refine wpAnyH_done (by kernel_rfl) ?_ _
                    refine NoPanic.normal ?_
                    clear hHeld
                    go_wp2_with fail
                    go_meet
                    exact ⟨ta, tb, _, rfl, rfl, HW.out, HTR.out, HKY.out, HTa.out.1, HTb.out.1⟩
                  · skip
                    go_simp
                    have hal := below_al w14 (.cells #[Value.int .u8 0, Value.int .u8 0, Value.int .u8 0, Value.int .u8 0, Value.int .u8 0, Value.int .u8 0, Value.int .u8 0, Value.int .u8 0, Value.int .u8 0, Value.int .u8 0, Value.int .u8 0, Value.int .u8 0, Value.int .u8 0, Value.int .u8 0, Value.int .u8 0, Value.int .u8 0, Value.int .u8 0, Value.int .u8 0, Value.int .u8 0, Value.int .u8 0, Value.int .u8 0, Value.int .u8 0, Value.int .u8 0, Value.int .u8 0, Value.int .u8 0, Value.int .u8 0, Value.int .u8 0, Value.int .u8 0, Value.int .u8 0, Value.int .u8 0, Value.int .u8 0, Value.int .u8 0] 25)
                    have hbt := BT.of_cells (n := 32) (f := fun _ => 0#8) (laid_at (W := w14) (o := (.cells #[Value.int .u8 0, Value.int .u8 0, Value.int .u8 0, Value.int .u8 0, Value.int .u8 0, Value.int .u8 0, Value.int .u8 0, Value.int .u8 0, Value.int .u8 0, Value.int .u8 0, Value.int .u8 0, Value.int .u8 0, Value.int .u8 0, Value.int .u8 0, Value.int .u8 0, Value.int .u8 0, Value.int .u8 0, Value.int .u8 0, Value.int .u8 0, Value.int .u8 0, Value.int .u8 0, Value.int .u8 0, Value.int .u8 0, Value.int .u8 0, Value.int .u8 0, Value.int .u8 0, Value.int .u8 0, Value.int .u8 0, Value.int .u8 0, Value.int .u8 0, Value.int .u8 0, Value.int .u8 0] 25)) rfl) (fun i hi => zero_atL 32 i hi)
                    replace HW := Lib.hid (HW.out.go hal)
                    replace HTR := Lib.hid (HTR.out.go hal)
                    replace HKY := Lib.hid (HKY.out.go hal)
                    try have HAB := Lib.hid (show ta ≠ w14.heap.size from Nat.ne_of_lt HTa.out.1.lt)
                    try replace HTa := Lib.hid (And.intro (HTa.out.1.below' hal) HTa.out.2)
                    have HTb := Lib.hid (And.intro hbt (HS3.out))
                    replace HS3 := Lib.hid (Nat.le_trans HS3.out hal.size)
                    clear hal hbt
                    generalize w14.alloc (.cells #[Value.int .u8 0, Value.int .u8 0, Value.int .u8 0, Value.int .u8 0, Value.int .u8 0, Value.int .u8 0, Value.int .u8 0, Value.int .u8 0, Value.int .u8 0, Value.int .u8 0, Value.int .u8 0, Value.int .u8 0, Value.int .u8 0, Value.int .u8 0, Value.int .u8 0, Value.int .u8 0, Value.int .u8 0, Value.int .u8 0, Value.int .u8 0, Value.int .u8 0, Value.int .u8 0, Value.int .u8 0, Value.int .u8 0, Value.int .u8 0, Value.int .u8 0, Value.int .u8 0, Value.int .u8 0, Value.int .u8 0, Value.int .u8 0, Value.int .u8 0, Value.int .u8 0, Value.int .u8 0] 25) = w15 at *
                    generalize w14.heap.size = tb at *
                    rename World => w14
                    refine hK.out _ _ (by first | exact ⟨row4 HTR.out.yx, HAT.out _ HW.out.bel⟩ | exact ⟨row4 (HTR.out.go (Below.refl _ _).drew).yx, HAT.out _ HW.out.drew.bel⟩) (fun hHeld => ?_)
                    clear hK K
                    try simp only [Act.put, List.setIfInBounds_toArray, List.set_cons_zero, List.set_cons_succ]
                    refine one_to (i := 9) (l' := #[true, true, true, true, true, true, true, true, true, true, true, false, false]) rfl (by kernel_rfl) (by kernel_rfl) (fun K hK => ?_)
                    go_simp
                    have hal := below_al w14 (.cells #[Value.int .u8 0, Value.int .u8 0, Value.int .u8 0, Value.int .u8 0, Value.int .u8 0, Value.int .u8 0, Value.int .u8 0, Value.int .u8 0, Value.int .u8 0, Value.int .u8 0, Value.int .u8 0, Value.int .u8 0, Value.int .u8 0, Value.int .u8 0, Value.int .u8 0, Value.int .u8 0, Value.int .u8 0, Value.int .u8 0, Value.int .u8 0, Value.int .u8 0, Value.int .u8 0, Value.int .u8 0, Value.int .u8 0, Value.int .u8 0, Value.int .u8 0, Value.int .u8 0, Value.int .u8 0, Value.int .u8 0, Value.int .u8 0, Value.int .u8 0, Value.int .u8 0, Value.int .u8 0] 25)
                    have hbt := BT.of_cells (n := 32) (f := fun _ => 0#8) (laid_at (W := w14) (o := (.cells #[Value.int .u8 0, Value.int .u8 0, Value.int .u8 0, Value.int .u8 0, Value.int .u8 0, Value.int .u8 0, Value.int .u8 0, Value.int .u8 0, Value.int .u8 0, Value.int .u8 0, Value.int .u8 0, Value.int .u8 0, Value.int .u8 0, Value.int .u8 0, Value.int .u8 0, Value.int .u8 0, Value.int .u8 0, Value.int .u8 0, Value.int .u8 0, Value.int .u8 0, Value.int .u8 0, Value.int .u8 0, Value.int .u8 0, Value.int .u8 0, Value.int .u8 0, Value.int .u8 0, Value.int .u8 0, Value.int .u8 0, Value.int .u8 0, Value.int .u8 0, Value.int .u8 0, Value.int .u8 0] 25)) rfl) (fun i hi => zero_atL 32 i hi)
                    replace HW := Lib.hid (HW.out.go hal)
                    replace HTR := Lib.hid (HTR.out.go hal)
                    replace HKY := Lib.hid (HKY.out.go hal)
                    try have HAB := Lib.hid (show w14.heap.size ≠ tb from Ne.symm (Nat.ne_of_lt HTb.out.1.lt))
                    try replace HTb := Lib.hid (And.intro (HTb.out.1.below' hal) HTb.out.2)
                    have HTa := Lib.hid (And.intro hbt (HS3.out))
                    replace HS3 := Lib.hid (Nat.le_trans HS3.out hal.size)
                    clear hal hbt
                    generalize w14.alloc (.cells #[Value.int .u8 0, Value.int .u8 0, Value.int .u8 0, Value.int .u8 0, Value.int .u8 0, Value.int .u8 0, Value.int .u8 0, Value.int .u8 0, Value.int .u8 0, Value.int .u8 0, Value.int .u8 0, Value.int .u8 0, Value.int .u8 0, Value.int .u8 0, Value.int .u8 0, Value.int .u8 0, Value.int .u8 0, Value.int .u8 0, Value.int .u8 0, Value.int .u8 0, Value.int .u8 0, Value.int .u8 0, Value.int .u8 0, Value.int .u8 0, Value.int .u8 0, Value.int .u8 0, Value.int .u8 0, Value.int .u8 0, Value.int .u8 0, Value.int .u8 0, Value.int .u8 0, Value.int .u8 0] 25) = w15 at *
                    generalize w14.heap.size = ta at *
                    rename World => w14
                    refine hK.out _ _ (by first | exact ⟨row4 HTR.out.yx, HAT.out _ HW.out.bel⟩ | exact ⟨row4 (HTR.out.go (Below.refl _ _).drew).yx, HAT.out _ HW.out.drew.bel⟩) (fun hHeld => ?_)
                    clear hK K
                    try simp only [Act.put, List.setIfInBounds_toArray, List.set_cons_zero, List.set_cons_succ]
                    refine one_to (i := 11) (l' := #[true, true, true, true, true, true, true, true, true, true, true, true, false]) rfl (by kernel_rfl) (by kernel_rfl) (fun K hK => ?_)
                    refine wp_store_mid 25 _ _ rfl ta 0 (tagC s).toArray rfl rfl (by simpa [tagC_len] using HTa.out.1.there 32 (Nat.le_refl _)) (by simp [infoTag, tagC_len]) (tagC_one _) ?_
                    rw [List.toList_toArray]
                    have gs := gr_setCells (hb := ta) (tagC s) 0 w14
                    have hbt := HTa.out.1.setFirst (f' := s) 32 (Nat.le_refl _) (tagC s) rfl (fun j h1 h2 => by omega)
                    replace HW := Lib.hid (HW.out.ch (Ch.gr gs) (fun k hk e => by have e : k = ta := e; have := HTa.out.2; have := HB0.out; have := HB13.out; omega) (fun q hq e => HW.out.off HTa.out.1 HPL.out (by rw [hq, e])))
                    replace HTR := Lib.hid (HTR.out.tag HUP.out HTa.out.2 gs)
                    replace HKY := Lib.hid (KY4.tag HKY.out HUP.out.2.1 HTa.out.2 gs)
                    replace HTb := Lib.hid (And.intro (HTb.out.1.gr gs HAB.out.symm) HTb.out.2)
                    replace HTa := Lib.hid (And.intro hbt HTa.out.2)
                    replace HS3 := Lib.hid (Nat.le_trans HS3.out gs.size)
                    clear gs hbt
                    generalize w14.setCells ta 0 (tagC s) = w15 at *
                    rename World => w14
                    refine hK.out _ _ (by first | exact ⟨row4 HTR.out.yx, HAT.out _ HW.out.bel⟩ | exact ⟨row4 (HTR.out.go (Below.refl _ _).drew).yx, HAT.out _ HW.out.drew.bel⟩) (fun hHeld => ?_)
                    clear hK K
                    try simp only [Act.put, List.setIfInBounds_toArray, List.set_cons_zero, List.set_cons_succ]
                    refine one_to (i := 12) (l' := #[true, true, true, true, true, true, true, true, true, true, true, true, true]) rfl (by kernel_rfl) (by kernel_rfl) (fun K hK => ?_)
                    refine wp_store_mid 25 _ _ rfl tb 0 (tagC s).toArray rfl rfl (by simpa [tagC_len] using HTb.out.1.there 32 (Nat.le_refl _)) (by simp [infoTag, tagC_len]) (tagC_one _) ?_
                    rw [List.toList_toArray]
                    have gs := gr_setCells (hb := tb) (tagC s) 0 w14
                    have hbt := HTb.out.1.setFirst (f' := s) 32 (Nat.le_refl _) (tagC s) rfl (fun j h1 h2 => by omega)
                    replace HW := Lib.hid (HW.out.ch (Ch.gr gs) (fun k hk e => by have e : k = tb := e; have := HTb.out.2; have := HB0.out; have := HB13.out; omega) (fun q hq e => HW.out.off HTb.out.1 HPL.out (by rw [hq, e])))
                    replace HTR := Lib.hid (HTR.out.tag HUP.out HTb.out.2 gs)
                    replace HKY := Lib.hid (KY4.tag HKY.out HUP.out.2.1 HTb.out.2 gs)
                    replace HTa := Lib.hid (And.intro (HTa.out.1.gr gs HAB.out) HTa.out.2)
                    replace HTb := Lib.hid (And.intro hbt HTb.out.2)
                    replace HS3 := Lib.hid (Nat.le_trans HS3.out gs.size)
                    clear gs hbt
                    generalize w14.setCells tb 0 (tagC s) = w15 at *
                    rename World => w14
                    refine hK.out _ _ (by first | exact ⟨row4 HTR.out.yx, HAT.out _ HW.out.bel⟩ | exact ⟨row4 (HTR.out.go (Below.refl _ _).drew).yx, HAT.out _ HW.out.drew.bel⟩) (fun hHeld => ?_)
                    clear hK K
                    try simp only [Act.put, List.setIfInBounds_toArray, List.set_cons_zero, List.set_cons_succ]
                    refine wpAnyH_done (by kernel_rfl) ?_ _
                    refine NoPanic.normal ?_
                    clear hHeld
                    go_wp2_with fail
                    go_meet
                    exact ⟨ta, tb, _, rfl, rfl, HW.out, HTR.out, HKY.out, HTa.out.1, HTb.out.1⟩
                · skip
                  go_simp
                  have hal := below_al w14 (.cells #[Value.int .u8 0, Value.int .u8 0, Value.int .u8 0, Value.int .u8 0, Value.int .u8 0, Value.int .u8 0, Value.int .u8 0, Value.int .u8 0, Value.int .u8 0, Value.int .u8 0, Value.int .u8 0, Value.int .u8 0, Value.int .u8 0, Value.int .u8 0, Value.int .u8 0, Value.int .u8 0, Value.int .u8 0, Value.int .u8 0, Value.int .u8 0, Value.int .u8 0, Value.int .u8 0, Value.int .u8 0, Value.int .u8 0, Value.int .u8 0, Value.int .u8 0, Value.int .u8 0, Value.int .u8 0, Value.int .u8 0, Value.int .u8 0, Value.int .u8 0, Value.int .u8 0, Value.int .u8 0] 25)
                  have hbt := BT.of_cells (n := 32) (f := fun _ => 0#8) (laid_at (W := w14) (o := (.cells #[Value.int .u8 0, Value.int .u8 0, Value.int .u8 0, Value.int .u8 0, Value.int .u8 0, Value.int .u8 0, Value.int .u8 0, Value.int .u8 0, Value.int .u8 0, Value.int .u8 0, Value.int .u8 0, Value.int .u8 0, Value.int .u8 0, Value.int .u8 0, Value.int .u8 0, Value.int .u8 0, Value.int .u8 0, Value.int .u8 0, Value.int .u8 0, Value.int .u8 0, Value.int .u8 0, Value.int .u8 0, Value.int .u8 0, Value.int .u8 0, Value.int .u8 0, Value.int .u8 0, Value.int .u8 0, Value.int .u8 0, Value.int .u8 0, Value.int .u8 0, Value.int .u8 0, Value.int .u8 0] 25)) rfl) (fun i hi => zero_atL 32 i hi)
                  replace HW := Lib.hid (HW.out.go hal)
                  replace HTR := Lib.hid (HTR.out.go hal)
                  replace HKY := Lib.hid (HKY.out.go hal)
                  try have HAB := Lib.hid (show w14.heap.size ≠ tb from Ne.symm (Nat.ne_of_lt HTb.out.1.lt))
                  try replace HTb := Lib.hid (And.intro (HTb.out.1.below' hal) HTb.out.2)
                  have HTa := Lib.hid (And.intro hbt (HS3.out))
                  replace HS3 := Lib.hid (Nat.le_trans HS3.out hal.size)
                  clear hal hbt
                  generalize w14.alloc (.cells #[Value.int .u8 0, Value.int .u8 0, Value.int .u8 0, Value.int .u8 0, Value.int .u8 0, Value.int .u8 0, Value.int .u8 0, Value.int .u8 0, Value.int .u8 0, Value.int .u8 0, Value.int .u8 0, Value.int .u8 0, Value.int .u8 0, Value.int .u8 0, Value.int .u8 0, Value.int .u8 0, Value.int .u8 0, Value.int .u8 0, Value.int .u8 0, Value.int .u8 0, Value.int .u8 0, Value.int .u8 0, Value.int .u8 0, Value.int .u8 0, Value.int .u8 0, Value.int .u8 0, Value.int .u8 0, Value.int .u8 0, Value.int .u8 0, Value.int .u8 0, Value.int .u8 0, Value.int .u8 0] 25) = w15 at *
                  generalize w14.heap.size = ta at *
                  rename World => w14
                  refine hK.out _ _ (by first | exact ⟨row4 HTR.out.yx, HAT.out _ HW.out.bel⟩ | exact ⟨row4 (HTR.out.go (Below.refl _ _).drew).yx, HAT.out _ HW.out.drew.bel⟩) (fun hHeld => ?_)
                  clear hK K
                  try simp only [Act.put, List.setIfInBounds_toArray, List.set_cons_zero, List.set_cons_succ]
                  refine two_to (i := 8) (j := 10) (l1 := #[true, true, true, true, true, true, true, true, true, true, false, false, false]) (l2 := #[true, true, true, true, true, true, true, true, false, true, true, false, false]) rfl rfl (by kernel_rfl) (by kernel_rfl) (by kernel_rfl) (fun K hK => ?_) (fun K hK => ?_)
                  · skip
                    go_simp
                    refine (HAR.out w14 HW.out).mono ?_
                    rintro e w15 ⟨av2, rfl, g15, k15⟩
                    replace HTR := Lib.hid (HTR.out.ch (Ch.rch g15) HNR.out)
                    replace HKY := Lib.hid (KY4.ch HKY.out (Ch.rch g15) HNR.out)
                    try replace HTa := Lib.hid (And.intro (g15.bt HTa.out.1 (fun e => HNR.out _ (Nat.le_trans HB13.out HTa.out.2) (.inl e)) (fun e => HNR.out _ (Nat.le_trans HB13.out HTa.out.2) (.inr e))) HTa.out.2)
                    try replace HTb := Lib.hid (And.intro (g15.bt HTb.out.1 (fun e => HNR.out _ (Nat.le_trans HB13.out HTb.out.2) (.inl e)) (fun e => HNR.out _ (Nat.le_trans HB13.out HTb.out.2) (.inr e))) HTb.out.2)
                    replace HW := Lib.hid k15
                    replace HS3 := Lib.hid (Nat.le_trans HS3.out g15.size)
                    clear g15 k15
                    rename World => w14
                    dsimp only
                    refine hK.out _ _ (by first | exact ⟨row4 HTR.out.yx, HAT.out _ HW.out.bel⟩ | exact ⟨row4 (HTR.out.go (Below.refl _ _).drew).yx, HAT.out _ HW.out.drew.bel⟩) (fun hHeld => ?_)
                    clear hK K
                    try simp only [Act.put, List.setIfInBounds_toArray, List.set_cons_zero, List.set_cons_succ]
                    refine one_to (i := 10) (l' := #[true, true, true, true, true, true, true, true, true, true, true, false, false]) rfl (by kernel_rfl) (by kernel_rfl) (fun K hK => ?_)
                    go_simp
                    have hal := below_al w14 (.cells #[Value.int .u8 0, Value.int .u8 0, Value.int .u8 0, Value.int .u8 0, Value.int .u8 0, Value.int .u8 0, Value.int .u8 0, Value.int .u8 0, Value.int .u8 0, Value.int .u8 0, Value.int .u8 0, Value.int .u8 0, Value.int .u8 0, Value.int .u8 0, Value.int .u8 0, Value.int .u8 0, Value.int .u8 0, Value.int .u8 0, Value.int .u8 0, Value.int .u8 0, Value.int .u8 0, Value.int .u8 0, Value.int .u8 0, Value.int .u8 0, Value.int .u8 0, Value.int .u8 0, Value.int .u8 0, Value.int .u8 0, Value.int .u8 0, Value.int .u8 0, Value.int .u8 0, Value.int .u8 0] 25)
                    have hbt := BT.of_cells (n := 32) (f := fun _ => 0#8) (laid_at (W := w14) (o := (.cells #[Value.int .u8 0, Value.int .u8 0, Value.int .u8 0, Value.int .u8 0, Value.int .u8 0, Value.int .u8 0, Value.int .u8 0, Value.int .u8 0, Value.int .u8 0, Value.int .u8 0, Value.int .u8 0, Value.int .u8 0, Value.int .u8 0, Value.int .u8 0, Value.int .u8 0, Value.int .u8 0, Value.int .u8 0, Value.int .u8 0, Value.int .u8 0, Value.int .u8 0, Value.int .u8 0, Value.int .u8 0, Value.int .u8 0, Value.int .u8 0, Value.int .u8 0, Value.int .u8 0, Value.int .u8 0, Value.int .u8 0, Value.int .u8 0, Value.int .u8 0, Value.int .u8 0, Value.int .u8 0] 25)) rfl) (fun i hi => zero_atL 32 i hi)
                    replace HW := Lib.hid (HW.out.go hal)
                    replace HTR := Lib.hid (HTR.out.go hal)
                    replace HKY := Lib.hid (HKY.out.go hal)
                    try have HAB := Lib.hid (show ta ≠ w14.heap.size from Nat.ne_of_lt HTa.out.1.lt)
                    try replace HTa := Lib.hid (And.intro (HTa.out.1.below' hal) HTa.out.2)
                    have HTb := Lib.hid (And.intro hbt (HS3.out))
                    replace HS3 := Lib.hid (Nat.le_trans HS3.out hal.size)
                    clear hal hbt
                    generalize w14.alloc (.cells #[Value.int .u8 0, Value.int .u8 0, Value.int .u8 0, Value.int .u8 0, Value.int .u8 0, Value.int .u8 0, Value.int .u8 0, Value.int .u8 0, Value.int .u8 0, Value.int .u8 0, Value.int .u8 0, Value.int .u8 0, Value.int .u8 0, Value.int .u8 0, Value.int .u8 0, Value.int .u8 0, Value.int .u8 0, Value.int .u8 0, Value.int .u8 0, Value.int .u8 0, Value.int .u8 0, Value.int .u8 0, Value.int .u8 0, Value.int .u8 0, Value.int .u8 0, Value.int .u8 0, Value.int .u8 0, Value.int .u8 0, Value.int .u8 0, Value.int .u8 0, Value.int .u8 0, Value.int .u8 0] 25) = w15 at *
                    generalize w14.heap.size = tb at *
                    rename World => w14
                    refine hK.out _ _ (by first | exact ⟨row4 HTR.out.yx, HAT.out _ HW.out.bel⟩ | exact ⟨row4 (HTR.out.go (Below.refl _ _).drew).yx, HAT.out _ HW.out.drew.bel⟩) (fun hHeld => ?_)
                    clear hK K
                    try simp only [Act.put, List.setIfInBounds_toArray, List.set_cons_zero, List.set_cons_succ]
                    refine one_to (i := 11) (l' := #[true, true, true, true, true, true, true, true, true, true, true, true, false]) rfl (by kernel_rfl) (by kernel_rfl) (fun K hK => ?_)
                    refine wp_store_mid 25 _ _ rfl ta 0 (tagC s).toArray rfl rfl (by simpa [tagC_len] using HTa.out.1.there 32 (Nat.le_refl _)) (by simp [infoTag, tagC_len]) (tagC_one _) ?_
                    rw [List.toList_toArray]
                    have gs := gr_setCells (hb := ta) (tagC s) 0 w14
                    have hbt := HTa.out.1.setFirst (f' := s) 32 (Nat.le_refl _) (tagC s) rfl (fun j h1 h2 => by omega)
                    replace HW := Lib.hid (HW.out.ch (Ch.gr gs) (fun k hk e => by have e : k = ta := e; have := HTa.out.2; have := HB0.out; have := HB13.out; omega) (fun q hq e => HW.out.off HTa.out.1 HPL.out (by rw [hq, e])))
                    replace HTR := Lib.hid (HTR.out.tag HUP.out HTa.out.2 gs)
                    replace HKY := Lib.hid (KY4.tag HKY.out HUP.out.2.1 HTa.out.2 gs)
                    replace HTb := Lib.hid (And.intro (HTb.out.1.gr gs HAB.out.symm) HTb.out.2)
                    replace HTa := Lib.hid (And.intro hbt HTa.out.2)
                    replace HS3 := Lib.hid (Nat.le_trans HS3.out gs.size)
                    clear gs hbt
                    generalize w14.setCells ta 0 (tagC s) = w15 at *
                    rename World => w14
                    refine hK.out _ _ (by first | exact ⟨row4 HTR.out.yx, HAT.out _ HW.out.bel⟩ | exact ⟨row4 (HTR.out.go (Below.refl _ _).drew).yx, HAT.out _ HW.out.drew.bel⟩) (fun hHeld => ?_)
                    clear hK K
                    try simp only [Act.put, List.setIfInBounds_toArray, List.set_cons_zero, List.set_cons_succ]
                    refine one_to (i := 12) (l' := #[true, true, true, true, true, true, true, true, true, true, true, true, true]) rfl (by kernel_rfl) (by kernel_rfl) (fun K hK => ?_)
                    refine wp_store_mid 25 _ _ rfl tb 0 (tagC s).toArray rfl rfl (by simpa [tagC_len] using HTb.out.1.there 32 (Nat.le_refl _)) (by simp [infoTag, tagC_len]) (tagC_one _) ?_
                    rw [List.toList_toArray]
                    have gs := gr_setCells (hb := tb) (tagC s) 0 w14
                    have hbt := HTb.out.1.setFirst (f' := s) 32 (Nat.le_refl _) (tagC s) rfl (fun j h1 h2 => by omega)
                    replace HW := Lib.hid (HW.out.ch (Ch.gr gs) (fun k hk e => by have e : k = tb := e; have := HTb.out.2; have := HB0.out; have := HB13.out; omega) (fun q hq e => HW.out.off HTb.out.1 HPL.out (by rw [hq, e])))
                    replace HTR := Lib.hid (HTR.out.tag HUP.out HTb.out.2 gs)
                    replace HKY := Lib.hid (KY4.tag HKY.out HUP.out.2.1 HTb.out.2 gs)
                    replace HTa := Lib.hid (And.intro (HTa.out.1.gr gs HAB.out) HTa.out.2)
                    replace HTb := Lib.hid (And.intro hbt HTb.out.2)
                    replace HS3 := Lib.hid (Nat.le_trans HS3.out gs.size)
                    clear gs hbt
                    generalize w14.setCells tb 0 (tagC s) = w15 at *
                    rename World => w14
                    refine hK.out _ _ (by first | exact ⟨row4 HTR.out.yx, HAT.out _ HW.out.bel⟩ | exact ⟨row4 (HTR.out.go (Below.refl _ _).drew).yx, HAT.out _ HW.out.drew.bel⟩) (fun hHeld => ?_)
                    clear hK K
                    try simp only [Act.put, List.setIfInBounds_toArray, List.set_cons_zero, List.set_cons_succ]
                    refine wpAnyH_done (by kernel_rfl) ?_ _
                    refine NoPanic.normal ?_
                    clear hHeld
                    go_wp2_with fail
                    go_meet
                    exact ⟨ta, tb, _, rfl, rfl, HW.out, HTR.out, HKY.out, HTa.out.1, HTb.out.1⟩
                  · skip
                    go_simp
                    have hal := below_al w14 (.cells #[Value.int .u8 0, Value.int .u8 0, Value.int .u8 0, Value.int .u8 0, Value.int .u8 0, Value.int .u8 0, Value.int .u8 0, Value.int .u8 0, Value.int .u8 0, Value.int .u8 0, Value.int .u8 0, Value.int .u8 0, Value.int .u8 0, Value.int .u8 0, Value.int .u8 0, Value.int .u8 0, Value.int .u8 0, Value.int .u8 0, Value.int .u8 0, Value.int .u8 0, Value.int .u8 0, Value.int .u8 0, Value.int .u8 0, Value.int .u8 0, Value.int .u8 0, Value.int .u8 0, Value.int .u8 0, Value.int .u8 0, Value.int .u8 0, Value.int .u8 0, Value.int .u8 0, Value.int .u8 0] 25)
                    have hbt := BT.of_cells (n := 32) (f := fun _ => 0#8) (laid_at (W := w14) (o := (.cells #[Value.int .u8 0, Value.int .u8 0, Value.int .u8 0, Value.int .u8 0, Value.int .u8 0, Value.int .u8 0, Value.int .u8 0, Value.int .u8 0, Value.int .u8 0, Value.int .u8 0, Value.int .u8 0, Value.int .u8 0, Value.int .u8 0, Value.int .u8 0, Value.int .u8 0, Value.int .u8 0, Value.int .u8 0, Value.int .u8 0, Value.int .u8 0, Value.int .u8 0, Value.int .u8 0, Value.int .u8 0, Value.int .u8 0, Value.int .u8 0, Value.int .u8 0, Value.int .u8 0, Value.int .u8 0, Value.int .u8 0, Value.int .u8 0, Value.int .u8 0, Value.int .u8 0, Value.int .u8 0] 25)) rfl) (fun i hi => zero_atL 32 i hi)
                    replace HW := Lib.hid (HW.out.go hal)
                    replace HTR := Lib.hid (HTR.out.go hal)
                    replace HKY := Lib.hid (HKY.out.go hal)
                    try have HAB := Lib.hid (show ta ≠ w14.heap.size from Nat.ne_of_lt HTa.out.1.lt)
                    try replace HTa := Lib.hid (And.intro (HTa.out.1.below' hal) HTa.out.2)
                    have HTb := Lib.hid (And.intro hbt (HS3.out))
                    replace HS3 := Lib.hid (Nat.le_trans HS3.out hal.size)
                    clear hal hbt
                    generalize w14.alloc (.cells #[Value.int .u8 0, Value.int .u8 0, Value.int .u8 0, Value.int .u8 0, Value.int .u8 0, Value.int .u8 0, Value.int .u8 0, Value.int .u8 0, Value.int .u8 0, Value.int .u8 0, Value.int .u8 0, Value.int .u8 0, Value.int .u8 0, Value.int .u8 0, Value.int .u8 0, Value.int .u8 0, Value.int .u8 0, Value.int .u8 0, Value.int .u8 0, Value.int .u8 0, Value.int .u8 0, Value.int .u8 0, Value.int .u8 0, Value.int .u8 0, Value.int .u8 0, Value.int .u8 0, Value.int .u8 0, Value.int .u8 0, Value.int .u8 0, Value.int .u8 0, Value.int .u8 0, Value.int .u8 0] 25) = w15 at *
                    generalize w14.heap.size = tb at *
                    rename World => w14
                    refine hK.out _ _ (by first | exact ⟨row4 HTR.out.yx, HAT.out _ HW.out.bel⟩ | exact ⟨row4 (HTR.out.go (Below.refl _ _).drew).yx, HAT.out _ HW.out.drew.bel⟩) (fun hHeld => ?_)
                    clear hK K
                    try simp only [Act.put, List.setIfInBounds_toArray, List.set_cons_zero, List.set_cons_succ]
                    refine one_to (i := 8) (l' := #[true, true, true, true, true, true, true, true, true, true, true, false, false]) rfl (by kernel_rfl) (by kernel_rfl) (fun K hK => ?_)
                    go_simp
                    refine (HAR.out w14 HW.out).mono ?_
                    rintro e w15 ⟨av2, rfl, g15, k15⟩
                    replace HTR := Lib.hid (HTR.out.ch (Ch.rch g15) HNR.out)
                    replace HKY := Lib.hid (KY4.ch HKY.out (Ch.rch g15) HNR.out)
                    try replace HTa := Lib.hid (And.intro (g15.bt HTa.out.1 (fun e => HNR.out _ (Nat.le_trans HB13.out HTa.out.2) (.inl e)) (fun e => HNR.out _ (Nat.le_trans HB13.out HTa.out.2) (.inr e))) HTa.out.2)
                    try replace HTb := Lib.hid (And.intro (g15.bt HTb.out.1 (fun e => HNR.out _ (Nat.le_trans HB13.out HTb.out.2) (.inl e)) (fun e => HNR.out _ (Nat.le_trans HB13.out HTb.out.2) (.inr e))) HTb.out.2)
                    replace HW := Lib.hid k15
                    replace HS3 := Lib.hid (Nat.le_trans HS3.out g15.size)
                    clear g15 k15
                    rename World => w14
                    dsimp only
                    refine hK.out _ _ (by first | exact ⟨row4 HTR.out.yx, HAT.out _ HW.out.bel⟩ | exact ⟨row4 (HTR.out.go (Below.refl _ _).drew).yx, HAT.out _ HW.out.drew.bel⟩) (fun hHeld => ?_)
                    clear hK K
                    try simp only [Act.put, List.setIfInBounds_toArray, List.set_cons_zero, List.set_cons_succ]
                    refine one_to (i := 11) (l' := #[true, true, true, true, true, true, true, true, true, true, true, true, false]) rfl (by kernel_rfl) (by kernel_rfl) (fun K hK => ?_)
                    refine wp_store_mid 25 _ _ rfl ta 0 (tagC s).toArray rfl rfl (by simpa [tagC_len] using HTa.out.1.there 32 (Nat.le_refl _)) (by simp [infoTag, tagC_len]) (tagC_one _) ?_
                    rw [List.toList_toArray]
                    have gs := gr_setCells (hb := ta) (tagC s) 0 w14
                    have hbt := HTa.out.1.setFirst (f' := s) 32 (Nat.le_refl _) (tagC s) rfl (fun j h1 h2 => by omega)
                    replace HW := Lib.hid (HW.out.ch (Ch.gr gs) (fun k hk e => by have e : k = ta := e; have := HTa.out.2; have := HB0.out; have := HB13.out; omega) (fun q hq e => HW.out.off HTa.out.1 HPL.out (by rw [hq, e])))
                    replace HTR := Lib.hid (HTR.out.tag HUP.out HTa.out.2 gs)
                    replace HKY := Lib.hid (KY4.tag HKY.out HUP.out.2.1 HTa.out.2 gs)
                    replace HTb := Lib.hid (And.intro (HTb.out.1.gr gs HAB.out.symm) HTb.out.2)
                    replace HTa := Lib.hid (And.intro hbt HTa.out.2)
                    replace HS3 := Lib.hid (Nat.le_trans HS3.out gs.size)
                    clear gs hbt
                    generalize w14.setCells ta 0 (tagC s) = w15 at *
                    rename World => w14
                    refine hK.out _ _ (by first | exact ⟨row4 HTR.out.yx, HAT.out _ HW.out.bel⟩ | exact ⟨row4 (HTR.out.go (Below.refl _ _).drew).yx, HAT.out _ HW.out.drew.bel⟩) (fun hHeld => ?_)
                    clear hK K
                    try simp only [Act.put, List.setIfInBounds_toArray, List.set_cons_zero, List.set_cons_succ]
                    refine one_to (i := 12) (l' := #[true, true, true, true, true, true, true, true, true, true, true, true, true]) rfl (by kernel_rfl) (by kernel_rfl) (fun K hK => ?_)
                    refine wp_store_mid 25 _ _ rfl tb 0 (tagC s).toArray rfl rfl (by simpa [tagC_len] using HTb.out.1.there 32 (Nat.le_refl _)) (by simp [infoTag, tagC_len]) (tagC_one _) ?_
                    rw [List.toList_toArray]
                    have gs := gr_setCells (hb := tb) (tagC s) 0 w14
                    have hbt := HTb.out.1.setFirst (f' := s) 32 (Nat.le_refl _) (tagC s) rfl (fun j h1 h2 => by omega)
                    replace HW := Lib.hid (HW.out.ch (Ch.gr gs) (fun k hk e => by have e : k = tb := e; have := HTb.out.2; have := HB0.out; have := HB13.out; omega) (fun q hq e => HW.out.off HTb.out.1 HPL.out (by rw [hq, e])))
                    replace HTR := Lib.hid (HTR.out.tag HUP.out HTb.out.2 gs)
                    replace HKY := Lib.hid (KY4.tag HKY.out HUP.out.2.1 HTb.out.2 gs)
                    replace HTa := Lib.hid (And.intro (HTa.out.1.gr gs HAB.out) HTa.out.2)
                    replace HTb := Lib.hid (And.intro hbt HTb.out.2)
                    replace HS3 := Lib.hid (Nat.le_trans HS3.out gs.size)
                    clear gs hbt
                    generalize w14.setCells tb 0 (tagC s) = w15 at *
                    rename World => w14
                    refine hK.out _ _ (by first | exact ⟨row4 HTR.out.yx, HAT.out _ HW.out.bel⟩ | exact ⟨row4 (HTR.out.go (Below.refl _ _).drew).yx, HAT.out _ HW.out.drew.bel⟩) (fun hHeld => ?_)
                    clear hK K
                    try simp only [Act.put, List.setIfInBounds_toArray, List.set_cons_zero, List.set_cons_succ]
                    refine wpAnyH_done (by kernel_rfl) ?_ _
                    refine NoPanic.normal ?_
                    clear hHeld
                    go_wp2_with fail
                    go_meet
                    exact ⟨ta, tb, _, rfl, rfl, HW.out, HTR.out, HKY.out, HTa.out.1, HTb.out.1⟩
                · skip
                  go_simp
                  have hal := below_al w14 (.cells #[Value.int .u8 0, Value.int .u8 0, Value.int .u8 0, Value.int .u8 0, Value.int .u8 0, Value.int .u8 0, Value.int .u8 0, Value.int .u8 0, Value.int .u8 0, Value.int .u8 0, Value.int .u8 0, Value.int .u8 0, Value.int .u8 0, Value.int .u8 0, Value.int .u8 0, Value.int .u8 0, Value.int .u8 0, Value.int .u8 0, Value.int .u8 0, Value.int .u8 0, Value.int .u8 0, Value.int .u8 0, Value.int .u8 0, Value.int .u8 0, Value.int .u8 0, Value.int .u8 0, Value.int .u8 0, Value.int .u8 0, Value.int .u8 0, Value.int .u8 0, Value.int .u8 0, Value.int .u8 0] 25)
                  have hbt := BT.of_cells (n := 32) (f := fun _ => 0#8) (laid_at (W := w14) (o := (.cells #[Value.int .u8 0, Value.int .u8 0, Value.int .u8 0, Value.int .u8 0, Value.int .u8 0, Value.int .u8 0, Value.int .u8 0, Value.int .u8 0, Value.int .u8 0, Value.int .u8 0, Value.int .u8 0, Value.int .u8 0, Value.int .u8 0, Value.int .u8 0, Value.int .u8 0, Value.int .u8 0, Value.int .u8 0, Value.int .u8 0, Value.int .u8 0, Value.int .u8 0, Value.int .u8 0, Value.int .u8 0, Value.int .u8 0, Value.int .u8 0, Value.int .u8 0, Value.int .u8 0, Value.int .u8 0, Value.int .u8 0, Value.int .u8 0, Value.int .u8 0, Value.int .u8 0, Value.int .u8 0] 25)) rfl) (fun i hi => zero_atL 32 i hi)
                  replace HW := Lib.hid (HW.out.go hal)
                  replace HTR := Lib.hid (HTR.out.go hal)
                  replace HKY := Lib.hid (HKY.out.go hal)
                  try have HAB := Lib.hid (show ta ≠ w14.heap.size from Nat.ne_of_lt HTa.out.1.lt)
                  try replace HTa := Lib.hid (And.intro (HTa.out.1.below' hal) HTa.out.2)
                  have HTb := Lib.hid (And.intro hbt (HS3.out))
                  replace HS3 := Lib.hid (Nat.le_trans HS3.out hal.size)
                  clear hal hbt
                  generalize w14.alloc (.cells #[Value.int .u8 0, Value.int .u8 0, Value.int .u8 0, Value.int .u8 0, Value.int .u8 0, Value.int .u8 0, Value.int .u8 0, Value.int .u8 0, Value.int .u8 0, Value.int .u8 0, Value.int .u8 0, Value.int .u8 0, Value.int .u8 0, Value.int .u8 0, Value.int .u8 0, Value.int .u8 0, Value.int .u8 0, Value.int .u8 0, Value.int .u8 0, Value.int .u8 0, Value.int .u8 0, Value.int .u8 0, Value.int .u8 0, Value.int .u8 0, Value.int .u8 0, Value.int .u8 0, Value.int .u8 0, Value.int .u8 0, Value.int .u8 0, Value.int .u8 0, Value.int .u8 0, Value.int .u8 0] 25) = w15 at *
                  generalize w14.heap.size = tb at *
                  rename World => w14
                  refine hK.out _ _ (by first | exact ⟨row4 HTR.out.yx, HAT.out _ HW.out.bel⟩ | exact ⟨row4 (HTR.out.go (Below.refl _ _).drew).yx, HAT.out _ HW.out.drew.bel⟩) (fun hHeld => ?_)
                  clear hK K
                  try simp only [Act.put, List.setIfInBounds_toArray, List.set_cons_zero, List.set_cons_succ]
                  refine two_to (i := 8) (j := 9) (l1 := #[true, true, true, true, true, true, true, true, true, false, true, false, false]) (l2 := #[true, true, true, true, true, true, true, true, false, true, true, false, false]) rfl rfl (by kernel_rfl) (by kernel_rfl) (by kernel_rfl) (fun K hK => ?_) (fun K hK => ?_)
                  · skip
                    go_simp
                    refine (HAR.out w14 HW.out).mono ?_
                    rintro e w15 ⟨av2, rfl, g15, k15⟩
                    replace HTR := Lib.hid (HTR.out.ch (Ch.rch g15) HNR.out)
                    replace HKY := Lib.hid (KY4.ch HKY.out (Ch.rch g15) HNR.out)
                    try replace HTa := Lib.hid (And.intro (g15.bt HTa.out.1 (fun e => HNR.out _ (Nat.le_trans HB13.out HTa.out.2) (.inl e)) (fun e => HNR.out _ (Nat.le_trans HB13.out HTa.out.2) (.inr e))) HTa.out.2)
                    try replace HTb := Lib.hid (And.intro (g15.bt HTb.out.1 (fun e => HNR.out _ (Nat.le_trans HB13.out HTb.out.2) (.inl e)) (fun e => HNR.out _ (Nat.le_trans HB13.out HTb.out.2) (.inr e))) HTb.out.2)
                    replace HW := Lib.hid k15
                    replace HS3 := Lib.hid (Nat.le_trans HS3.out g15.size)
                    clear g15 k15
                    rename World => w14
                    dsimp only
                    refine hK.out _ _ (by first | exact ⟨row4 HTR.out.yx, HAT.out _ HW.out.bel⟩ | exact ⟨row4 (HTR.out.go (Below.refl _ _).drew).yx, HAT.out _ HW.out.drew.bel⟩) (fun hHeld => ?_)
                    clear hK K
                    try simp only [Act.put, List.setIfInBounds_toArray, List.set_cons_zero, List.set_cons_succ]
                    refine one_to (i := 9) (l' := #[true, true, true, true, true, true, true, true, true, true, true, false, false]) rfl (by kernel_rfl) (by kernel_rfl) (fun K hK => ?_)
                    go_simp
                    have hal := below_al w14 (.cells #[Value.int .u8 0, Value.int .u8 0, Value.int .u8 0, Value.int .u8 0, Value.int .u8 0, Value.int .u8 0, Value.int .u8 0, Value.int .u8 0, Value.int .u8 0, Value.int .u8 0, Value.int .u8 0, Value.int .u8 0, Value.int .u8 0, Value.int .u8 0, Value.int .u8 0, Value.int .u8 0, Value.int .u8 0, Value.int .u8 0, Value.int .u8 0, Value.int .u8 0, Value.int .u8 0, Value.int .u8 0, Value.int .u8 0, Value.int .u8 0, Value.int .u8 0, Value.int .u8 0, Value.int .u8 0, Value.int .u8 0, Value.int .u8 0, Value.int .u8 0, Value.int .u8 0, Value.int .u8 0] 25)
                    have hbt := BT.of_cells (n := 32) (f := fun _ => 0#8) (laid_at (W := w14) (o := (.cells #[Value.int .u8 0, Value.int .u8 0, Value.int .u8 0, Value.int .u8 0, Value.int .u8 0, Value.int .u8 0, Value.int .u8 0, Value.int .u8 0, Value.int .u8 0, Value.int .u8 0, Value.int .u8 0, Value.int .u8 0, Value.int .u8 0, Value.int .u8 0, Value.int .u8 0, Value.int .u8 0, Value.int .u8 0, Value.int .u8 0, Value.int .u8 0, Value.int .u8 0, Value.int .u8 0, Value.int .u8 0, Value.int .u8 0, Value.int .u8 0, Value.int .u8 0, Value.int .u8 0, Value.int .u8 0, Value.int .u8 0, Value.int .u8 0, Value.int .u8 0, Value.int .u8 0, Value.int .u8 0] 25)) rfl) (fun i hi => zero_atL 32 i hi)
                    replace HW := Lib.hid (HW.out.go hal)
                    replace HTR := Lib.hid (HTR.out.go hal)
                    replace HKY := Lib.hid (HKY.out.go hal)
                    try have HAB := Lib.hid (show w14.heap.size ≠ tb from Ne.symm (Nat.ne_of_lt HTb.out.1.lt))
                    try replace HTb := Lib.hid (And.intro (HTb.out.1.below' hal) HTb.out.2)
                    have HTa := Lib.hid (And.intro hbt (HS3.out))
                    replace HS3 := Lib.hid (Nat.le_trans HS3.out hal.size)
                    clear hal hbt
                    generalize w14.alloc (.cells #[Value.int .u8 0, Value.int .u8 0, Value.int .u8 0, Value.int .u8 0, Value.int .u8 0, Value.int .u8 0, Value.int .u8 0, Value.int .u8 0, Value.int .u8 0, Value.int .u8 0, Value.int .u8 0, Value.int .u8 0, Value.int .u8 0, Value.int .u8 0, Value.int .u8 0, Value.int .u8 0, Value.int .u8 0, Value.int .u8 0, Value.int .u8 0, Value.int .u8 0, Value.int .u8 0, Value.int .u8 0, Value.int .u8 0, Value.int .u8 0, Value.int .u8 0, Value.int .u8 0, Value.int .u8 0, Value.int .u8 0, Value.int .u8 0, Value.int .u8 0, Value.int .u8 0, Value.int .u8 0] 25) = w15 at *
                    generalize w14.heap.size = ta at *
                    rename World => w14
                    refine hK.out _ _ (by first | exact ⟨row4 HTR.out.yx, HAT.out _ HW.out.bel⟩ | exact ⟨row4 (HTR.out.go (Below.refl _ _).drew).yx, HAT.out _ HW.out.drew.bel⟩) (fun hHeld => ?_)
                    clear hK K
                    try simp only [Act.put, List.setIfInBounds_toArray, List.set_cons_zero, List.set_cons_succ]
                    refine one_to (i := 11) (l' := #[true, true, true, true, true, true, true, true, true, true, true, true, false]) rfl (by kernel_rfl) (by kernel_rfl) (fun K hK => ?_)
                    refine wp_store_mid 25 _ _ rfl ta 0 (tagC s).toArray rfl rfl (by simpa [tagC_len] using HTa.out.1.there 32 (Nat.le_refl _)) (by simp [infoTag, tagC_len]) (tagC_one _) ?_
                    rw [List.toList_toArray]
                    have gs := gr_setCells (hb := ta) (tagC s) 0 w14
                    have hbt := HTa.out.1.setFirst (f' := s) 32 (Nat.le_refl _) (tagC s) rfl (fun j h1 h2 => by omega)
                    replace HW := Lib.hid (HW.out.ch (Ch.gr gs) (fun k hk e => by have e : k = ta := e; have := HTa.out.2; have := HB0.out; have := HB13.out; omega) (fun q hq e => HW.out.off HTa.out.1 HPL.out (by rw [hq, e])))
                    replace HTR := Lib.hid (HTR.out.tag HUP.out HTa.out.2 gs)
                    replace HKY := Lib.hid (KY4.tag HKY.out HUP.out.2.1 HTa.out.2 gs)
                    replace HTb := Lib.hid (And.intro (HTb.out.1.gr gs HAB.out.symm) HTb.out.2)
                    replace HTa := Lib.hid (And.intro hbt HTa.out.2)
                    replace HS3 := Lib.hid (Nat.le_trans HS3.out gs.size)
                    clear gs hbt
                    generalize w14.setCells ta 0 (tagC s) = w15 at *
                    rename World => w14
                    refine hK.out _ _ (by first | exact ⟨row4 HTR.out.yx, HAT.out _ HW.out.bel⟩ | exact ⟨row4 (HTR.out.go (Below.refl _ _).drew).yx, HAT.out _ HW.out.drew.bel⟩) (fun hHeld => ?_)
                    clear hK K
                    try simp only [Act.put, List.setIfInBounds_toArray, List.set_cons_zero, List.set_cons_succ]
                    refine one_to (i := 12) (l' := #[true, true, true, true, true, true, true, true, true, true, true, true, true]) rfl (by kernel_rfl) (by kernel_rfl) (fun K hK => ?_)
                    refine wp_store_mid 25 _ _ rfl tb 0 (tagC s).toArray rfl rfl (by simpa [tagC_len] using HTb.out.1.there 32 (Nat.le_refl _)) (by simp [infoTag, tagC_len]) (tagC_one _) ?_
                    rw [List.toList_toArray]
                    have gs := gr_setCells (hb := tb) (tagC s) 0 w14
                    have hbt := HTb.out.1.setFirst (f' := s) 32 (Nat.le_refl _) (tagC s) rfl (fun j h1 h2 => by omega)
                    replace HW := Lib.hid (HW.out.ch (Ch.gr gs) (fun k hk e => by have e : k = tb := e; have := HTb.out.2; have := HB0.out; have := HB13.out; omega) (fun q hq e => HW.out.off HTb.out.1 HPL.out (by rw [hq, e])))
                    replace HTR := Lib.hid (HTR.out.tag HUP.out HTb.out.2 gs)
                    replace HKY := Lib.hid (KY4.tag HKY.out HUP.out.2.1 HTb.out.2 gs)
                    replace HTa := Lib.hid (And.intro (HTa.out.1.gr gs HAB.out) HTa.out.2)
                    replace HTb := Lib.hid (And.intro hbt HTb.out.2)
                    replace HS3 := Lib.hid (Nat.le_trans HS3.out gs.size)
                    clear gs hbt
                    generalize w14.setCells tb 0 (tagC s) = w15 at *
                    rename World => w14
                    refine hK.out _ _ (by first | exact ⟨row4 HTR.out.yx, HAT.out _ HW.out.bel⟩ | exact ⟨row4 (HTR.out.go (Below.refl _ _).drew).yx, HAT.out _ HW.out.drew.bel⟩) (fun hHeld => ?_)
                    clear hK K
                    try simp only [Act.put, List.setIfInBounds_toArray, List.set_cons_zero, List.set_cons_succ]
                    refine wpAnyH_done (by kernel_rfl) ?_ _
                    refine NoPanic.normal ?_
                    clear hHeld
                    go_wp2_with fail
                    go_meet
                    exact ⟨ta, tb, _, rfl, rfl, HW.out, HTR.out, HKY.out, HTa.out.1, HTb.out.1⟩
                  · skip
                    go_simp
                    have hal := below_al w14 (.cells #[Value.int .u8 0, Value.int .u8 0, Value.int .u8 0, Value.int .u8 0, Value.int .u8 0, Value.int .u8 0, Value.int .u8 0, Value.int .u8 0, Value.int .u8 0, Value.int .u8 0, Value.int .u8 0, Value.int .u8 0, Value.int .u8 0, Value.int .u8 0, Value.int .u8 0, Value.int .u8 0, Value.int .u8 0, Value.int .u8 0, Value.int .u8 0, Value.int .u8 0, Value.int .u8 0, Value.int .u8 0, Value.int .u8 0, Value.int .u8 0, Value.int .u8 0, Value.int .u8 0, Value.int .u8 0, Value.int .u8 0, Value.int .u8 0, Value.int .u8 0, Value.int .u8 0, Value.int .u8 0] 25)
                    have hbt := BT.of_cells (n := 32) (f := fun _ => 0#8) (laid_at (W := w14) (o := (.cells #[Value.int .u8 0, Value.int .u8 0, Value.int .u8 0, Value.int .u8 0, Value.int .u8 0, Value.int .u8 0, Value.int .u8 0, Value.int .u8 0, Value.int .u8 0, Value.int .u8 0, Value.int .u8 0, Value.int .u8 0, Value.int .u8 0, Value.int .u8 0, Value.int .u8 0, Value.int .u8 0, Value.int .u8 0, Value.int .u8 0, Value.int .u8 0, Value.int .u8 0, Value.int .u8 0, Value.int .u8 0, Value.int .u8 0, Value.int .u8 0, Value.int .u8 0, Value.int .u8 0, Value.int .u8 0, Value.int .u8 0, Value.int .u8 0, Value.int .u8 0, Value.int .u8 0, Value.int .u8 0] 25)) rfl) (fun i hi => zero_atL 32 i hi)
                    replace HW := Lib.hid (HW.out.go hal)
                    replace HTR := Lib.hid (HTR.out.go hal)
                    replace HKY := Lib.hid (HKY.out.go hal)
                    try have HAB := Lib.hid (show w14.heap.size ≠ tb from Ne.symm (Nat.ne_of_lt HTb.out.1.lt))
                    try replace HTb := Lib.hid (And.intro (HTb.out.1.below' hal) HTb.out.2)
                    have HTa := Lib.hid (And.intro hbt (HS3.out))
                    replace HS3 := Lib.hid (Nat.le_trans HS3.out hal.size)
                    clear hal hbt
                    generalize w14.alloc (.cells #[Value.int .u8 0, Value.int .u8 0, Value.int .u8 0, Value.int .u8 0, Value.int .u8 0, Value.int .u8 0, Value.int .u8 0, Value.int .u8 0, Value.int .u8 0, Value.int .u8 0, Value.int .u8 0, Value.int .u8 0, Value.int .u8 0, Value.int .u8 0, Value.int .u8 0, Value.int .u8 0, Value.int .u8 0, Value.int .u8 0, Value.int .u8 0, Value.int .u8 0, Value.int .u8 0, Value.int .u8 0, Value.int .u8 0, Value.int .u8 0, Value.int .u8 0, Value.int .u8 0, Value.int .u8 0, Value.int .u8 0, Value.int .u8 0, Value.int .u8 0, Value.int .u8 0, Value.int .u8 0] 25) = w15 at *
                    generalize w14.heap.size = ta at *
                    rename World => w14
                    refine hK.out _ _ (by first | exact ⟨row4 HTR.out.yx, HAT.out _ HW.out.bel⟩ | exact ⟨row4 (HTR.out.go (Below.refl _ _).drew).yx, HAT.out _ HW.out.drew.bel⟩) (fun hHeld => ?_)
                    clear hK K
                    try simp only [Act.put, List.setIfInBounds_toArray, List.set_cons_zero, List.set_cons_succ]
                    refine one_to (i := 8) (l' := #[true, true, true, true, true, true, true, true, true, true, true, false, false]) rfl (by kernel_rfl) (by kernel_rfl) (fun K hK => ?_)
                    go_simp
                    refine (HAR.out w14 HW.out).mono ?_
                    rintro e w15 ⟨av2, rfl, g15, k15⟩
                    replace HTR := Lib.hid (HTR.out.ch (Ch.rch g15) HNR.out)
                    replace HKY := Lib.hid (KY4.ch HKY.out (Ch.rch g15) HNR.out)
                    try replace HTa := Lib.hid (And.intro (g15.bt HTa.out.1 (fun e => HNR.out _ (Nat.le_trans HB13.out HTa.out.2) (.inl e)) (fun e => HNR.out _ (Nat.le_trans HB13.out HTa.out.2) (.inr e))) HTa.out.2)
                    try replace HTb := Lib.hid (And.intro (g15.bt HTb.out.1 (fun e => HNR.out _ (Nat.le_trans HB13.out HTb.out.2) (.inl e)) (fun e => HNR.out _ (Nat.le_trans HB13.out HTb.out.2) (.inr e))) HTb.out.2)
                    replace HW := Lib.hid k15
                    replace HS3 := Lib.hid (Nat.le_trans HS3.out g15.size)
                    clear g15 k15
                    rename World => w14
                    dsimp only
                    refine hK.out _ _ (by first | exact ⟨row4 HTR.out.yx, HAT.out _ HW.out.bel⟩ | exact ⟨row4 (HTR.out.go (Below.refl _ _).drew).yx, HAT.out _ HW.out.drew.bel⟩) (fun hHeld => ?_)
                    clear hK K
                    try simp only [Act.put, List.setIfInBounds_toArray, List.set_cons_zero, List.set_cons_succ]
                    refine one_to (i := 11) (l' := #[true, true, true, true, true, true, true, true, true, true, true, true, false]) rfl (by kernel_rfl) (by kernel_rfl) (fun K hK => ?_)
                    refine wp_store_mid 25 _ _ rfl ta 0 (tagC s).toArray rfl rfl (by simpa [tagC_len] using HTa.out.1.there 32 (Nat.le_refl _)) (by simp [infoTag, tagC_len]) (tagC_one _) ?_
                    rw [List.toList_toArray]
                    have gs := gr_setCells (hb := ta) (tagC s) 0 w14
                    have hbt := HTa.out.1.setFirst (f' := s) 32 (Nat.le_refl _) (tagC s) rfl (fun j h1 h2 => by omega)
                    replace HW := Lib.hid (HW.out.ch (Ch.gr gs) (fun k hk e => by have e : k = ta := e; have := HTa.out.2; have := HB0.out; have := HB13.out; omega) (fun q hq e => HW.out.off HTa.out.1 HPL.out (by rw [hq, e])))
                    replace HTR := Lib.hid (HTR.out.tag HUP.out HTa.out.2 gs)
                    replace HKY := Lib.hid (KY4.tag HKY.out HUP.out.2.1 HTa.out.2 gs)
                    replace HTb := Lib.hid (And.intro (HTb.out.1.gr gs HAB.out.symm) HTb.out.2)
                    replace HTa := Lib.hid (And.intro hbt HTa.out.2)
                    replace HS3 := Lib.hid (Nat.le_trans HS3.out gs.size)
                    clear gs hbt
                    generalize w14.setCells ta 0 (tagC s) = w15 at *
                    rename World => w14
                    refine hK.out _ _ (by first | exact ⟨row4 HTR.out.yx, HAT.out _ HW.out.bel⟩ | exact ⟨row4 (HTR.out.go (Below.refl _ _).drew).yx, HAT.out _ HW.out.drew.bel⟩) (fun hHeld => ?_)
                    clear hK K
                    try simp only [Act.put, List.setIfInBounds_toArray, List.set_cons_zero, List.set_cons_succ]
                    refine one_to (i := 12) (l' := #[true, true, true, true, true, true, true, true, true, true, true, true, true]) rfl (by kernel_rfl) (by kernel_rfl) (fun K hK => ?_)
                    refine wp_store_mid 25 _ _ rfl tb 0 (tagC s).toArray rfl rfl (by simpa [tagC_len] using HTb.out.1.there 32 (Nat.le_refl _)) (by simp [infoTag, tagC_len]) (tagC_one _) ?_
                    rw [List.toList_toArray]
                    have gs := gr_setCells (hb := tb) (tagC s) 0 w14
                    have hbt := HTb.out.1.setFirst (f' := s) 32 (Nat.le_refl _) (tagC s) rfl (fun j h1 h2 => by omega)
                    replace HW := Lib.hid (HW.out.ch (Ch.gr gs) (fun k hk e => by have e : k = tb := e; have := HTb.out.2; have := HB0.out; have := HB13.out; omega) (fun q hq e => HW.out.off HTb.out.1 HPL.out (by rw [hq, e])))
                    replace HTR := Lib.hid (HTR.out.tag HUP.out HTb.out.2 gs)
                    replace HKY := Lib.hid (KY4.tag HKY.out HUP.out.2.1 HTb.out.2 gs)
                    replace HTa := Lib.hid (And.intro (HTa.out.1.gr gs HAB.out) HTa.out.2)
                    replace HTb := Lib.hid (And.intro hbt HTb.out.2)
                    replace HS3 := Lib.hid (Nat.le_trans HS3.out gs.size)
                    clear gs hbt
                    generalize w14.setCells tb 0 (tagC s) = w15 at *
                    rename World => w14
                    refine hK.out _ _ (by first | exact ⟨row4 HTR.out.yx, HAT.out _ HW.out.bel⟩ | exact ⟨row4 (HTR.out.go (Below.refl _ _).drew).yx, HAT.out _ HW.out.drew.bel⟩) (fun hHeld => ?_)
                    clear hK K
                    try simp only [Act.put, List.setIfInBounds_toArray, List.set_cons_zero, List.set_cons_succ]
                    refine wpAnyH_done (by kernel_rfl) ?_ _
                    refine NoPanic.normal ?_
                    clear hHeld
                    go_wp2_with fail
                    go_meet
                    exact ⟨ta, tb, _, rfl, rfl, HW.out, HTR.out, HKY.out, HTa.out.1, HTb.out.1⟩
              · skip
                go_simp
                have hal := below_al w14 (.cells #[Value.int .u8 0, Value.int .u8 0, Value.int .u8 0, Value.int .u8 0, Value.int .u8 0, Value.int .u8 0, Value.int .u8 0, Value.int .u8 0, Value.int .u8 0, Value.int .u8 0, Value.int .u8 0, Value.int .u8 0, Value.int .u8 0, Value.int .u8 0, Value.int .u8 0, Value.int .u8 0, Value.int .u8 0, Value.int .u8 0, Value.int .u8 0, Value.int .u8 0, Value.int .u8 0, Value.int .u8 0, Value.int .u8 0, Value.int .u8 0, Value.int .u8 0, Value.int .u8 0, Value.int .u8 0, Value.int .u8 0, Value.int .u8 0, Value.int .u8 0, Value.int .u8 0, Value.int .u8 0] 25)
                have hbt := BT.of_cells (n := 32) (f := fun _ => 0#8) (laid_at (W := w14) (o := (.cells #[Value.int .u8 0, Value.int .u8 0, Value.int .u8 0, Value.int .u8 0, Value.int .u8 0, Value.int .u8 0, Value.int .u8 0, Value.int .u8 0, Value.int .u8 0, Value.int .u8 0, Value.int .u8 0, Value.int .u8 0, Value.int .u8 0, Value.int .u8 0, Value.int .u8 0, Value.int .u8 0, Value.int .u8 0, Value.int .u8 0, Value.int .u8 0, Value.int .u8 0, Value.int .u8 0, Value.int .u8 0, Value.int .u8 0, Value.int .u8 0, Value.int .u8 0, Value.int .u8 0, Value.int .u8 0, Value.int .u8 0, Value.int .u8 0, Value.int .u8 0, Value.int .u8 0, Value.int .u8 0] 25)) rfl) (fun i hi => zero_atL 32 i hi)
                replace HW := Lib.hid (HW.out.go hal)
                replace HTR := Lib.hid (HTR.out.go hal)
                replace HKY := Lib.hid (HKY.out.go hal)
                try have HAB := Lib.hid (show w14.heap.size ≠ tb from Ne.symm (Nat.ne_of_lt HTb.out.1.lt))
                try replace HTb := Lib.hid (And.intro (HTb.out.1.below' hal) HTb.out.2)
                have HTa := Lib.hid (And.intro hbt (HS3.out))
                replace HS3 := Lib.hid (Nat.le_trans HS3.out hal.size)
                clear hal hbt
                generalize w14.alloc (.cells #[Value.int .u8 0, Value.int .u8 0, Value.int .u8 0, Value.int .u8 0, Value.int .u8 0, Value.int .u8 0, Value.int .u8 0, Value.int .u8 0, Value.int .u8 0, Value.int .u8 0, Value.int .u8 0, Value.int .u8 0, Value.int .u8 0, Value.int .u8 0, Value.int .u8 0, Value.int .u8 0, Value.int .u8 0, Value.int .u8 0, Value.int .u8 0, Value.int .u8 0, Value.int .u8 0, Value.int .u8 0, Value.int .u8 0, Value.int .u8 0, Value.int .u8 0, Value.int .u8 0, Value.int .u8 0, Value.int .u8 0, Value.int .u8 0, Value.int .u8 0, Value.int .u8 0, Value.int .u8 0] 25) = w15 at *
                generalize w14.heap.size = ta at *
                rename World => w14
                refine hK.out _ _ (by first | exact ⟨row4 HTR.out.yx, HAT.out _ HW.out.bel⟩ | exact ⟨row4 (HTR.out.go (Below.refl _ _).drew).yx, HAT.out _ HW.out.drew.bel⟩) (fun hHeld => ?_)
                clear hK K
                try simp only [Act.put, List.setIfInBounds_toArray, List.set_cons_zero, List.set_cons_succ]
                refine two_to (i := 2) (j := 10) (l1 := #[true, true, true, true, true, true, true, true, false, true, false, false, false]) (l2 := #[true, true, false, true, true, true, true, true, false, true, true, false, false]) rfl rfl (by kernel_rfl) (by kernel_rfl) (by kernel_rfl) (fun K hK => ?_) (fun K hK => ?_)
                · skip
                  go_simp
                  refine (HAM.out w14 HW.out HTR.out HKY.out).mono ?_
                  rintro e w15 ⟨rfl, g15, k15⟩
                  replace HTR := Lib.hid (HTR.out.ch (Ch.gr g15) HNB.out)
                  replace HKY := Lib.hid (KY4.ch HKY.out (Ch.gr g15) HNB.out)
                  try replace HTa := Lib.hid (And.intro (HTa.out.1.gr g15 (HNB.out _ (Nat.le_trans HB13.out HTa.out.2))) HTa.out.2)
                  try replace HTb := Lib.hid (And.intro (HTb.out.1.gr g15 (HNB.out _ (Nat.le_trans HB13.out HTb.out.2))) HTb.out.2)
                  replace HW := Lib.hid (HW.out.told g15 k15)
                  replace HS3 := Lib.hid (Nat.le_trans HS3.out g15.size)
                  clear g15 k15
                  rename World => w14
                  dsimp only
                  refine hK.out _ _ (by first | exact ⟨row4 HTR.out.yx, HAT.out _ HW.out.bel⟩ | exact ⟨row4 (HTR.out.go (Below.refl _ _).drew).yx, HAT.out _ HW.out.drew.bel⟩) (fun hHeld => ?_)
                  clear hK K
                  try simp only [Act.put, List.setIfInBounds_toArray, List.set_cons_zero, List.set_cons_succ]
                  refine two_to (i := 8) (j := 10) (l1 := #[true, true, true, true, true, true, true, true, true, true, false, false, false]) (l2 := #[true, true, true, true, true, true, true, true, false, true, true, false, false]) rfl rfl (by kernel_rfl) (by kernel_rfl) (by kernel_rfl) (fun K hK => ?_) (fun K hK => ?_)
                  · skip
                    go_simp
                    refine (HAR.out w14 HW.out).mono ?_
                    rintro e w15 ⟨av2, rfl, g15, k15⟩
                    replace HTR := Lib.hid (HTR.out.ch (Ch.rch g15) HNR.out)
                    replace HKY := Lib.hid (KY4.ch HKY.out (Ch.rch g15) HNR.out)
                    try replace HTa := Lib.hid (And.intro (g15.bt HTa.out.1 (fun e => HNR.out _ (Nat.le_trans HB13.out HTa.out.2) (.inl e)) (fun e => HNR.out _ (Nat.le_trans HB13.out HTa.out.2) (.inr e))) HTa.out.2)
                    try replace HTb := Lib.hid (And.intro (g15.bt HTb.out.1 (fun e => HNR.out _ (Nat.le_trans HB13.out HTb.out.2) (.inl e)) (fun e => HNR.out _ (Nat.le_trans HB13.out HTb.out.2) (.inr e))) HTb.out.2)
                    replace HW := Lib.hid k15
                    replace HS3 := Lib.hid (Nat.le_trans HS3.out g15.size)
                    clear g15 k15
                    rename World => w14
                    dsimp only
                    refine hK.out _ _ (by first | exact ⟨row4 HTR.out.yx, HAT.out _ HW.out.bel⟩ | exact ⟨row4 (HTR.out.go (Below.refl _ _).drew).yx, HAT.out _ HW.out.drew.bel⟩) (fun hHeld => ?_)
                    clear hK K
                    try simp only [Act.put, List.setIfInBounds_toArray, List.set_cons_zero, List.set_cons_succ]
                    refine one_to (i := 10) (l' := #[true, true, true, true, true, true, true, true, true, true, true, false, false]) rfl (by kernel_rfl) (by kernel_rfl) (fun K hK => ?_)
                    go_simp
                    have hal := below_al w14 (.cells #[Value.int .u8 0, Value.int .u8 0, Value.int .u8 0, Value.int .u8 0, Value.int .u8 0, Value.int .u8 0, Value.int .u8 0, Value.int .u8 0, Value.int .u8 0, Value.int .u8 0, Value.int .u8 0, Value.int .u8 0, Value.int .u8 0, Value.int .u8 0, Value.int .u8 0, Value.int .u8 0, Value.int .u8 0, Value.int .u8 0, Value.int .u8 0, Value.int .u8 0, Value.int .u8 0, Value.int .u8 0, Value.int .u8 0, Value.int .u8 0, Value.int .u8 0, Value.int .u8 0, Value.int .u8 0, Value.int .u8 0, Value.int .u8 0, Value.int .u8 0, Value.int .u8 0, Value.int .u8 0] 25)
                    have hbt := BT.of_cells (n := 32) (f := fun _ => 0#8) (laid_at (W := w14) (o := (.cells #[Value.int .u8 0, Value.int .u8 0, Value.int .u8 0, Value.int .u8 0, Value.int .u8 0, Value.int .u8 0, Value.int .u8 0, Value.int .u8 0, Value.int .u8 0, Value.int .u8 0, Value.int .u8 0, Value.int .u8 0, Value.int .u8 0, Value.int .u8 0, Value.int .u8 0, Value.int .u8 0, Value.int .u8 0, Value.int .u8 0, Value.int .u8 0, Value.int .u8 0, Value.int .u8 0, Value.int .u8 0, Value.int .u8 0, Value.int .u8 0, Value.int .u8 0, Value.int .u8 0, Value.int .u8 0, Value.int .u8 0, Value.int .u8 0, Value.int .u8 0, Value.int .u8 0, Value.int .u8 0] 25)) rfl) (fun i hi => zero_atL 32 i hi)
                    replace HW := Lib.hid (HW.out.go hal)
                    replace HTR := Lib.hid (HTR.out.go hal)
                    replace HKY := Lib.hid (HKY.out.go hal)
                    try have HAB := Lib.hid (show ta ≠ w14.heap.size from Nat.ne_of_lt HTa.out.1.lt)
                    try replace HTa := Lib.hid (And.intro (HTa.out.1.below' hal) HTa.out.2)
                    have HTb := Lib.hid (And.intro hbt (HS3.out))
                    replace HS3 := Lib.hid (Nat.le_trans HS3.out hal.size)
                    clear hal hbt
                    generalize w14.alloc (.cells #[Value.int .u8 0, Value.int .u8 0, Value.int .u8 0, Value.int .u8 0, Value.int .u8 0, Value.int .u8 0, Value.int .u8 0, Value.int .u8 0, Value.int .u8 0, Value.int .u8 0, Value.int .u8 0, Value.int .u8 0, Value.int .u8 0, Value.int .u8 0, Value.int .u8 0, Value.int .u8 0, Value.int .u8 0, Value.int .u8 0, Value.int .u8 0, Value.int .u8 0, Value.int .u8 0, Value.int .u8 0, Value.int .u8 0, Value.int .u8 0, Value.int .u8 0, Value.int .u8 0, Value.int .u8 0, Value.int .u8 0, Value.int .u8 0, Value.int .u8 0, Value.int .u8 0, Value.int .u8 0] 25) = w15 at *
                    generalize w14.heap.size = tb at *
                    rename World => w14
                    refine hK.out _ _ (by first | exact ⟨row4 HTR.out.yx, HAT.out _ HW.out.bel⟩ | exact ⟨row4 (HTR.out.go (Below.refl _ _).drew).yx, HAT.out _ HW.out.drew.bel⟩) (fun hHeld => ?_)
                    clear hK K
                    try simp only [Act.put, List.setIfInBounds_toArray, List.set_cons_zero, List.set_cons_succ]
                    refine one_to (i := 11) (l' := #[true, true, true, true, true, true, true, true, true, true, true, true, false]) rfl (by kernel_rfl) (by kernel_rfl) (fun K hK => ?_)
                    refine wp_store_mid 25 _ _ rfl ta 0 (tagC s).toArray rfl rfl (by simpa [tagC_len] using HTa.out.1.there 32 (Nat.le_refl _)) (by simp [infoTag, tagC_len]) (tagC_one _) ?_
                    rw [List.toList_toArray]
                    have gs := gr_setCells (hb := ta) (tagC s) 0 w14
                    have hbt := HTa.out.1.setFirst (f' := s) 32 (Nat.le_refl _) (tagC s) rfl (fun j h1 h2 => by omega)
                    replace HW := Lib.hid (HW.out.ch (Ch.gr gs) (fun k hk e => by have e : k = ta := e; have := HTa.out.2; have := HB0.out; have := HB13.out; omega) (fun q hq e => HW.out.off HTa.out.1 HPL.out (by rw [hq, e])))
                    replace HTR := Lib.hid (HTR.out.tag HUP.out HTa.out.2 gs)
                    replace HKY := Lib.hid (KY4.tag HKY.out HUP.out.2.1 HTa.out.2 gs)
                    replace HTb := Lib.hid (And.intro (HTb.out.1.gr gs HAB.out.symm) HTb.out.2)
                    replace HTa := Lib.hid (And.intro hbt HTa.out.2)
                    replace HS3 := Lib.hid (Nat.le_trans HS3.out gs.size)
                    clear gs hbt
                    generalize w14.setCells ta 0 (tagC s) = w15 at *
                    rename World => w14
                    refine hK.out _ _ (by first | exact ⟨row4 HTR.out.yx, HAT.out _ HW.out.bel⟩ | exact ⟨row4 (HTR.out.go (Below.refl _ _).drew).yx, HAT.out _ HW.out.drew.bel⟩) (fun hHeld => ?_)
                    clear hK K
                    try simp only [Act.put, List.setIfInBounds_toArray, List.set_cons_zero, List.set_cons_succ]
                    refine one_to (i := 12) (l' := #[true, true, true, true, true, true, true, true, true, true, true, true, true]) rfl (by kernel_rfl) (by kernel_rfl) (fun K hK => ?_)
                    refine wp_store_mid 25 _ _ rfl tb 0 (tagC s).toArray rfl rfl (by simpa [tagC_len] using HTb.out.1.there 32 (Nat.le_refl _)) (by simp [infoTag, tagC_len]) (tagC_one _) ?_
                    rw [List.toList_toArray]
                    have gs := gr_setCells (hb := tb) (tagC s) 0 w14
                    have hbt := HTb.out.1.setFirst (f' := s) 32 (Nat.le_refl _) (tagC s) rfl (fun j h1 h2 => by omega)
                    replace HW := Lib.hid (HW.out.ch (Ch.gr gs) (fun k hk e => by have e : k = tb := e; have := HTb.out.2; have := HB0.out; have := HB13.out; omega) (fun q hq e => HW.out.off HTb.out.1 HPL.out (by rw [hq, e])))
                    replace HTR := Lib.hid (HTR.out.tag HUP.out HTb.out.2 gs)
                    replace HKY := Lib.hid (KY4.tag HKY.out HUP.out.2.1 HTb.out.2 gs)
                    replace HTa := Lib.hid (And.intro (HTa.out.1.gr gs HAB.out) HTa.out.2)
                    replace HTb := Lib.hid (And.intro hbt HTb.out.2)
                    replace HS3 := Lib.hid (Nat.le_trans HS3.out gs.size)
                    clear gs hbt
                    generalize w14.setCells tb 0 (tagC s) = w15 at *
                    rename World => w14
                    refine hK.out _ _ (by first | exact ⟨row4 HTR.out.yx, HAT.out _ HW.out.bel⟩ | exact ⟨row4 (HTR.out.go (Below.refl _ _).drew).yx, HAT.out _ HW.out.drew.bel⟩) (fun hHeld => ?_)
                    clear hK K
                    try simp only [Act.put, List.setIfInBounds_toArray, List.set_cons_zero, List.set_cons_succ]
                    refine wpAnyH_done (by kernel_rfl) ?_ _
                    refine NoPanic.normal ?_
                    clear hHeld
                    go_wp2_with fail
                    go_meet
                    exact ⟨ta, tb, _, rfl, rfl, HW.out, HTR.out, HKY.out, HTa.out.1, HTb.out.1⟩
                  · skip
                    go_simp
                    have hal := below_al w14 (.cells #[Value.int .u8 0, Value.int .u8 0, Value.int .u8 0, Value.int .u8 0, Value.int .u8 0, Value.int .u8 0, Value.int .u8 0, Value.int .u8 0, Value.int .u8 0, Value.int .u8 0, Value.int .u8 0, Value.int .u8 0, Value.int .u8 0, Value.int .u8 0, Value.int .u8 0, Value.int .u8 0, Value.int .u8 0, Value.int .u8 0, Value.int .u8 0, Value.int .u8 0, Value.int .u8 0, Value.int .u8 0, Value.int .u8 0, Value.int .u8 0, Value.int .u8 0, Value.int .u8 0, Value.int .u8 0, Value.int .u8 0, Value.int .u8 0, Value.int .u8 0, Value.int .u8 0, Value.int .u8 0] 25)
                    have hbt := BT.of_cells (n := 32) (f := fun _ => 0#8) (laid_at (W := w14) (o := (.cells #[Value.int .u8 0, Value.int .u8 0, Value.int .u8 0, Value.int .u8 0, Value.int .u8 0, Value.int .u8 0, Value.int .u8 0, Value.int .u8 0, Value.int .u8 0, Value.int .u8 0, Value.int .u8 0, Value.int .u8 0, Value.int .u8 0, Value.int .u8 0, Value.int .u8 0, Value.int .u8 0, Value.int .u8 0, Value.int .u8 0, Value.int .u8 0, Value.int .u8 0, Value.int .u8 0, Value.int .u8 0, Value.int .u8 0, Value.int .u8 0, Value.int .u8 0, Value.int .u8 0, Value.int .u8 0, Value.int .u8 0, Value.int .u8 0, Value.int .u8 0, Value.int .u8 0, Value.int .u8 0] 25)) rfl) (fun i hi => zero_atL 32 i hi)
                    replace HW := Lib.hid (HW.out.go hal)
                    replace HTR := Lib.hid (HTR.out.go hal)
                    replace HKY := Lib.hid (HKY.out.go hal)
                    try have HAB := Lib.hid (show ta ≠ w14.heap.size from Nat.ne_of_lt HTa.out.1.lt)
                    try replace HTa := Lib.hid (And.intro (HTa.out.1.below' hal) HTa.out.2)
                    have HTb := Lib.hid (And.intro hbt (HS3.out))
                    replace HS3 := Lib.hid (Nat.le_trans HS3.out hal.size)
                    clear hal hbt
                    generalize w14.alloc (.cells #[Value.int .u8 0, Value.int .u8 0, Value.int .u8 0, Value.int .u8 0, Value.int .u8 0, Value.int .u8 0, Value.int .u8 0, Value.int .u8 0, Value.int .u8 0, Value.int .u8 0, Value.int .u8 0, Value.int .u8 0, Value.int .u8 0, Value.int .u8 0, Value.int .u8 0, Value.int .u8 0, Value.int .u8 0, Value.int .u8 0, Value.int .u8 0, Value.int .u8 0, Value.int .u8 0, Value.int .u8 0, Value.int .u8 0, Value.int .u8 0, Value.int .u8 0, Value.int .u8 0, Value.int .u8 0, Value.int .u8 0, Value.int .u8 0, Value.int .u8 0, Value.int .u8 0, Value.int .u8 0] 25) = w15 at *
                    generalize w14.heap.size = tb at *
                    rename World => w14
                    refine hK.out _ _ (by first | exact ⟨row4 HTR.out.yx, HAT.out _ HW.out.bel⟩ | exact ⟨row4 (HTR.out.go (Below.refl _ _).drew).yx, HAT.out _ HW.out.drew.bel⟩) (fun hHeld => ?_)
                    clear hK K
                    try simp only [Act.put, List.setIfInBounds_toArray, List.set_cons_zero, List.set_cons_succ]
                    refine one_to (i := 8) (l' := #[true, true, true, true, true, true, true, true, true, true, true, false, false]) rfl (by kernel_rfl) (by kernel_rfl) (fun K hK => ?_)
                    go_simp
                    refine (HAR.out w14 HW.out).mono ?_
                    rintro e w15 ⟨av2, rfl, g15, k15⟩
                    replace HTR := Lib.hid (HTR.out.ch (Ch.rch g15) HNR.out)
                    replace HKY := Lib.hid (KY4.ch HKY.out (Ch.rch g15) HNR.out)
                    try replace HTa := Lib.hid (And.intro (g15.bt HTa.out.1 (fun e => HNR.out _ (Nat.le_trans HB13.out HTa.out.2) (.inl e)) (fun e => HNR.out _ (Nat.le_trans HB13.out HTa.out.2) (.inr e))) HTa.out.2)
                    try replace HTb := Lib.hid (And.intro (g15.bt HTb.out.1 (fun e => HNR.out _ (Nat.le_trans HB13.out HTb.out.2) (.inl e)) (fun e => HNR.out _ (Nat.le_trans HB13.out HTb.out.2) (.inr e))) HTb.out.2)
                    replace HW := Lib.hid k15
                    replace HS3 := Lib.hid (Nat.le_trans HS3.out g15.size)
                    clear g15 k15
                    rename World => w14
                    dsimp only
                    refine hK.out _ _ (by first | exact ⟨row4 HTR.out.yx, HAT.out _ HW.out.bel⟩ | exact ⟨row4 (HTR.out.go (Below.refl _ _).drew).yx, HAT.out _ HW.out.drew.bel⟩) (fun hHeld => ?_)
                    clear hK K
                    try simp only [Act.put, List.setIfInBounds_toArray, List.set_cons_zero, List.set_cons_succ]
                    refine one_to (i := 11) (l' := #[true, true, true, true, true, true, true, true, true, true, true, true, false]) rfl (by kernel_rfl) (by kernel_rfl) (fun K hK => ?_)
                    refine wp_store_mid 25 _ _ rfl ta 0 (tagC s).toArray rfl rfl (by simpa [tagC_len] using HTa.out.1.there 32 (Nat.le_refl _)) (by simp [infoTag, tagC_len]) (tagC_one _) ?_
                    rw [List.toList_toArray]
                    have gs := gr_setCells (hb := ta) (tagC s) 0 w14
                    have hbt := HTa.out.1.setFirst (f' := s) 32 (Nat.le_refl _) (tagC s) rfl (fun j h1 h2 => by omega)
                    replace HW := Lib.hid (HW.out.ch (Ch.gr gs) (fun k hk e => by have e : k = ta := e; have := HTa.out.2; have := HB0.out; have := HB13.out; omega) (fun q hq e => HW.out.off HTa.out.1 HPL.out (by rw [hq, e])))
                    replace HTR := Lib.hid (HTR.out.tag HUP.out HTa.out.2 gs)
                    replace HKY := Lib.hid (KY4.tag HKY.out HUP.out.2.1 HTa.out.2 gs)
                    replace HTb := Lib.hid (And.intro (HTb.out.1.gr gs HAB.out.symm) HTb.out.2)
                    replace HTa := Lib.hid (And.intro hbt HTa.out.2)
                    replace HS3 := Lib.hid (Nat.le_trans HS3.out gs.size)
                    clear gs hbt
                    generalize w14.setCells ta 0 (tagC s) = w15 at *
                    rename World => w14
                    refine hK.out _ _ (by first | exact ⟨row4 HTR.out.yx, HAT.out _ HW.out.bel⟩ | exact ⟨row4 (HTR.out.go (Below.refl _ _).drew).yx, HAT.out _ HW.out.drew.bel⟩) (fun hHeld => ?_)
                    clear hK K
                    try simp only [Act.put, List.setIfInBounds_toArray, List.set_cons_zero, List.set_cons_succ]
                    refine one_to (i := 12) (l' := #[true, true, true, true, true, true, true, true, true, true, true, true, true]) rfl (by kernel_rfl) (by kernel_rfl) (fun K hK => ?_)
                    refine wp_store_mid 25 _ _ rfl tb 0 (tagC s).toArray rfl rfl (by simpa [tagC_len] using HTb.out.1.there 32 (Nat.le_refl _)) (by simp [infoTag, tagC_len]) (tagC_one _) ?_
                    rw [List.toList_toArray]
                    have gs := gr_setCells (hb := tb) (tagC s) 0 w14
                    have hbt := HTb.out.1.setFirst (f' := s) 32 (Nat.le_refl _) (tagC s) rfl (fun j h1 h2 => by omega)
                    replace HW := Lib.hid (HW.out.ch (Ch.gr gs) (fun k hk e => by have e : k = tb := e; have := HTb.out.2; have := HB0.out; have := HB13.out; omega) (fun q hq e => HW.out.off HTb.out.1 HPL.out (by rw [hq, e])))
                    replace HTR := Lib.hid (HTR.out.tag HUP.out HTb.out.2 gs)
                    replace HKY := Lib.hid (KY4.tag HKY.out HUP.out.2.1 HTb.out.2 gs)
                    replace HTa := Lib.hid (And.intro (HTa.out.1.gr gs HAB.out) HTa.out.2)
                    replace HTb := Lib.hid (And.intro hbt HTb.out.2)
                    replace HS3 := Lib.hid (Nat.le_trans HS3.out gs.size)
                    clear gs hbt
                    generalize w14.setCells tb 0 (tagC s) = w15 at *
                    rename World => w14
                    refine hK.out _ _ (by first | exact ⟨row4 HTR.out.yx, HAT.out _ HW.out.bel⟩ | exact ⟨row4 (HTR.out.go (Below.refl _ _).drew).yx, HAT.out _ HW.out.drew.bel⟩) (fun hHeld => ?_)
                    clear hK K
                    try simp only [Act.put, List.setIfInBounds_toArray, List.set_cons_zero, List.set_cons_succ]
                    refine wpAnyH_done (by kernel_rfl) ?_ _
                    refine NoPanic.normal ?_
                    clear hHeld
                    go_wp2_with fail
                    go_meet
                    exact ⟨ta, tb, _, rfl, rfl, HW.out, HTR.out, HKY.out, HTa.out.1, HTb.out.1⟩
                · skip
                  go_simp
                  have hal := below_al w14 (.cells #[Value.int .u8 0, Value.int .u8 0, Value.int .u8 0, Value.int .u8 0, Value.int .u8 0, Value.int .u8 0, Value.int .u8 0, Value.int .u8 0, Value.int .u8 0, Value.int .u8 0, Value.int .u8 0, Value.int .u8 0, Value.int .u8 0, Value.int .u8 0, Value.int .u8 0, Value.int .u8 0, Value.int .u8 0, Value.int .u8 0, Value.int .u8 0, Value.int .u8 0, Value.int .u8 0, Value.int .u8 0, Value.int .u8 0, Value.int .u8 0, Value.int .u8 0, Value.int .u8 0, Value.int .u8 0, Value.int .u8 0, Value.int .u8 0, Value.int .u8 0, Value.int .u8 0, Value.int .u8 0] 25)
                  have hbt := BT.of_cells (n := 32) (f := fun _ => 0#8) (laid_at (W := w14) (o := (.cells #[Value.int .u8 0, Value.int .u8 0, Value.int .u8 0, Value.int .u8 0, Value.int .u8 0, Value.int .u8 0, Value.int .u8 0, Value.int .u8 0, Value.int .u8 0, Value.int .u8 0, Value.int .u8 0, Value.int .u8 0, Value.int .u8 0, Value.int .u8 0, Value.int .u8 0, Value.int .u8 0, Value.int .u8 0, Value.int .u8 0, Value.int .u8 0, Value.int .u8 0, Value.int .u8 0, Value.int .u8 0, Value.int .u8 0, Value.int .u8 0, Value.int .u8 0, Value.int .u8 0, Value.int .u8 0, Value.int .u8 0, Value.int .u8 0, Value.int .u8 0, Value.int .u8 0, Value.int .u8 0] 25)) rfl) (fun i hi => zero_atL 32 i hi)
                  replace HW := Lib.hid (HW.out.go hal)
                  replace HTR := Lib.hid (HTR.out.go hal)
                  replace HKY := Lib.hid (HKY.out.go hal)
                  try have HAB := Lib.hid (show ta ≠ w14.heap.size from Nat.ne_of_lt HTa.out.1.lt)
                  try replace HTa := Lib.hid (And.intro (HTa.out.1.below' hal) HTa.out.2)
                  have HTb := Lib.hid (And.intro hbt (HS3.out))
                  replace HS3 := Lib.hid (Nat.le_trans HS3.out hal.size)
                  clear hal hbt
                  generalize w14.alloc (.cells #[Value.int .u8 0, Value.int .u8 0, Value.int .u8 0, Value.int .u8 0, Value.int .u8 0, Value.int .u8 0, Value.int .u8 0, Value.int .u8 0, Value.int .u8 0, Value.int .u8 0, Value.int .u8 0, Value.int .u8 0, Value.int .u8 0, Value.int .u8 0, Value.int .u8 0, Value.int .u8 0, Value.int .u8 0, Value.int .u8 0, Value.int .u8 0, Value.int .u8 0, Value.int .u8 0, Value.int .u8 0, Value.int .u8 0, Value.int .u8 0, Value.int .u8 0, Value.int .u8 0, Value.int .u8 0, Value.int .u8 0, Value.int .u8 0, Value.int .u8 0, Value.int .u8 0, Value.int .u8 0] 25) = w15 at *
                  generalize w14.heap.size = tb at *
                  rename World => w14
                  refine hK.out _ _ (by first | exact ⟨row4 HTR.out.yx, HAT.out _ HW.out.bel⟩ | exact ⟨row4 (HTR.out.go (Below.refl _ _).drew).yx, HAT.out _ HW.out.drew.bel⟩) (fun hHeld => ?_)
                  clear hK K
                  try simp only [Act.put, List.setIfInBounds_toArray, List.set_cons_zero, List.set_cons_succ]
                  refine one_to (i := 2) (l' := #[true, true, true, true, true, true, true, true, false, true, true, false, false]) rfl (by kernel_rfl) (by kernel_rfl) (fun K hK => ?_)
                  go_simp
                  refine (HAM.out w14 HW.out HTR.out HKY.out).mono ?_
                  rintro e w15 ⟨rfl, g15, k15⟩
                  replace HTR := Lib.hid (HTR.out.ch (Ch.gr g15) HNB.out)
                  replace HKY := Lib.hid (KY4.ch HKY.out (Ch.gr g15) HNB.out)
                  try replace HTa := Lib.hid (And.intro (HTa.out.1.gr g15 (HNB.out _ (Nat.le_trans HB13.out HTa.out.2))) HTa.out.2)
                  try replace HTb := Lib.hid (And.intro (HTb.out.1.gr g15 (HNB.out _ (Nat.le_trans HB13.out HTb.out.2))) HTb.out.2)
                  replace HW := Lib.hid (HW.out.told g15 k15)
                  replace HS3 := Lib.hid (Nat.le_trans HS3.out g15.size)
                  clear g15 k15
                  rename World => w14
                  dsimp only
                  refine hK.out _ _ (by first | exact ⟨row4 HTR.out.yx, HAT.out _ HW.out.bel⟩ | exact ⟨row4 (HTR.out.go (Below.refl _ _).drew).yx, HAT.out _ HW.out.drew.bel⟩) (fun hHeld => ?_)
                  clear hK K
                  try simp only [Act.put, List.setIfInBounds_toArray, List.set_cons_zero, List.set_cons_succ]
                  refine one_to (i := 8) (l' := #[true, true, true, true, true, true, true, true, true, true, true, false, false]) rfl (by kernel_rfl) (by kernel_rfl) (fun K hK => ?_)
                  go_simp
                  refine (HAR.out w14 HW.out).mono ?_
                  rintro e w15 ⟨av2, rfl, g15, k15⟩
                  replace HTR := Lib.hid (HTR.out.ch (Ch.rch g15) HNR.out)
                  replace HKY := Lib.hid (KY4.ch HKY.out (Ch.rch g15) HNR.out)
                  try replace HTa := Lib.hid (And.intro (g15.bt HTa.out.1 (fun e => HNR.out _ (Nat.le_trans HB13.out HTa.out.2) (.inl e)) (fun e => HNR.out _ (Nat.le_trans HB13.out HTa.out.2) (.inr e))) HTa.out.2)
                  try replace HTb := Lib.hid (And.intro (g15.bt HTb.out.1 (fun e => HNR.out _ (Nat.le_trans HB13.out HTb.out.2) (.inl e)) (fun e => HNR.out _ (Nat.le_trans HB13.out HTb.out.2) (.inr e))) HTb.out.2)
                  replace HW := Lib.hid k15
                  replace HS3 := Lib.hid (Nat.le_trans HS3.out g15.size)
                  clear g15 k15
                  rename World => w14
                  dsimp only
                  refine hK.out _ _ (by first | exact ⟨row4 HTR.out.yx, HAT.out _ HW.out.bel⟩ | exact ⟨row4 (HTR.out.go (Below.refl _ _).drew).yx, HAT.out _ HW.out.drew.bel⟩) (fun hHeld => ?_)
                  clear hK K
                  try simp only [Act.put, List.setIfInBounds_toArray, List.set_cons_zero, List.set_cons_succ]
                  refine one_to (i := 11) (l' := #[true, true, true, true, true, true, true, true, true, true, true, true, false]) rfl (by kernel_rfl) (by kernel_rfl) (fun K hK => ?_)
                  refine wp_store_mid 25 _ _ rfl ta 0 (tagC s).toArray rfl rfl (by simpa [tagC_len] using HTa.out.1.there 32 (Nat.le_refl _)) (by simp [infoTag, tagC_len]) (tagC_one _) ?_
                  rw [List.toList_toArray]
                  have gs := gr_setCells (hb := ta) (tagC s) 0 w14
                  have hbt := HTa.out.1.setFirst (f' := s) 32 (Nat.le_refl _) (tagC s) rfl (fun j h1 h2 => by omega)
                  replace HW := Lib.hid (HW.out.ch (Ch.gr gs) (fun k hk e => by have e : k = ta := e; have := HTa.out.2; have := HB0.out; have := HB13.out; omega) (fun q hq e => HW.out.off HTa.out.1 HPL.out (by rw [hq, e])))
                  replace HTR := Lib.hid (HTR.out.tag HUP.out HTa.out.2 gs)
                  replace HKY := Lib.hid (KY4.tag HKY.out HUP.out.2.1 HTa.out.2 gs)
                  replace HTb := Lib.hid (And.intro (HTb.out.1.gr gs HAB.out.symm) HTb.out.2)
                  replace HTa := Lib.hid (And.intro hbt HTa.out.2)
                  replace HS3 := Lib.hid (Nat.le_trans HS3.out gs.size)
                  clear gs hbt
                  generalize w14.setCells ta 0 (tagC s) = w15 at *
                  rename World => w14
                  refine hK.out _ _ (by first | exact ⟨row4 HTR.out.yx, HAT.out _ HW.out.bel⟩ | exact ⟨row4 (HTR.out.go (Below.refl _ _).drew).yx, HAT.out _ HW.out.drew.bel⟩) (fun hHeld => ?_)
                  clear hK K
                  try simp only [Act.put, List.setIfInBounds_toArray, List.set_cons_zero, List.set_cons_succ]
                  refine one_to (i := 12) (l' := #[true, true, true, true, true, true, true, true, true, true, true, true, true]) rfl (by kernel_rfl) (by kernel_rfl) (fun K hK => ?_)
                  refine wp_store_mid 25 _ _ rfl tb 0 (tagC s).toArray rfl rfl (by simpa [tagC_len] using HTb.out.1.there 32 (Nat.le_refl _)) (by simp [infoTag, tagC_len]) (tagC_one _) ?_
                  rw [List.toList_toArray]
                  have gs := gr_setCells (hb := tb) (tagC s) 0 w14
                  have hbt := HTb.out.1.setFirst (f' := s) 32 (Nat.le_refl _) (tagC s) rfl (fun j h1 h2 => by omega)
                  replace HW := Lib.hid (HW.out.ch (Ch.gr gs) (fun k hk e => by have e : k = tb := e; have := HTb.out.2; have := HB0.out; have := HB13.out; omega) (fun q hq e => HW.out.off HTb.out.1 HPL.out (by rw [hq, e])))
                  replace HTR := Lib.hid (HTR.out.tag HUP.out HTb.out.2 gs)
                  replace HKY := Lib.hid (KY4.tag HKY.out HUP.out.2.1 HTb.out.2 gs)
                  replace HTa := Lib.hid (And.intro (HTa.out.1.gr gs HAB.out) HTa.out.2)
                  replace HTb := Lib.hid (And.intro hbt HTb.out.2)
                  replace HS3 := Lib.hid (Nat.le_trans HS3.out gs.size)
                  clear gs hbt
                  generalize w14.setCells tb 0 (tagC s) = w15 at *
                  rename World => w14
                  refine hK.out _ _ (by first | exact ⟨row4 HTR.out.yx, HAT.out _ HW.out.bel⟩ | exact ⟨row4 (HTR.out.go (Below.refl _ _).drew).yx, HAT.out _ HW.out.drew.bel⟩) (fun hHeld => ?_)
                  clear hK K
                  try simp only [Act.put, List.setIfInBounds_toArray, List.set_cons_zero, List.set_cons_succ]
                  refine wpAnyH_done (by kernel_rfl) ?_ _
                  refine NoPanic.normal ?_
                  clear hHeld
                  go_wp2_with fail
                  go_meet
                  exact ⟨ta, tb, _, rfl, rfl, HW.out, HTR.out, HKY.out, HTa.out.1, HTb.out.1⟩
              · skip
                go_simp
                have hal := below_al w14 (.cells #[Value.int .u8 0, Value.int .u8 0, Value.int .u8 0, Value.int .u8 0, Value.int .u8 0, Value.int .u8 0, Value.int .u8 0, Value.int .u8 0, Value.int .u8 0, Value.int .u8 0, Value.int .u8 0, Value.int .u8 0, Value.int .u8 0, Value.int .u8 0, Value.int .u8 0, Value.int .u8 0, Value.int .u8 0, Value.int .u8 0, Value.int .u8 0, Value.int .u8 0, Value.int .u8 0, Value.int .u8 0, Value.int .u8 0, Value.int .u8 0, Value.int .u8 0, Value.int .u8 0, Value.int .u8 0, Value.int .u8 0, Value.int .u8 0, Value.int .u8 0, Value.int .u8 0, Value.int .u8 0] 25)
                have hbt := BT.of_cells (n := 32) (f := fun _ => 0#8) (laid_at (W := w14) (o := (.cells #[Value.int .u8 0, Value.int .u8 0, Value.int .u8 0, Value.int .u8 0, Value.int .u8 0, Value.int .u8 0, Value.int .u8 0, Value.int .u8 0, Value.int .u8 0, Value.int .u8 0, Value.int .u8 0, Value.int .u8 0, Value.int .u8 0, Value.int .u8 0, Value.int .u8 0, Value.int .u8 0, Value.int .u8 0, Value.int .u8 0, Value.int .u8 0, Value.int .u8 0, Value.int .u8 0, Value.int .u8 0, Value.int .u8 0, Value.int .u8 0, Value.int .u8 0, Value.int .u8 0, Value.int .u8 0, Value.int .u8 0, Value.int .u8 0, Value.int .u8 0, Value.int .u8 0, Value.int .u8 0] 25)) rfl) (fun i hi => zero_atL 32 i hi)
                replace HW := Lib.hid (HW.out.go hal)
                replace HTR := Lib.hid (HTR.out.go hal)
                replace HKY := Lib.hid (HKY.out.go hal)
                try have HAB := Lib.hid (show ta ≠ w14.heap.size from Nat.ne_of_lt HTa.out.1.lt)
                try replace HTa := Lib.hid (And.intro (HTa.out.1.below' hal) HTa.out.2)
                have HTb := Lib.hid (And.intro hbt (HS3.out))
                replace HS3 := Lib.hid (Nat.le_trans HS3.out hal.size)
                clear hal hbt
                generalize w14.alloc (.cells #[Value.int .u8 0, Value.int .u8 0, Value.int .u8 0, Value.int .u8 0, Value.int .u8 0, Value.int .u8 0, Value.int .u8 0, Value.int .u8 0, Value.int .u8 0, Value.int .u8 0, Value.int .u8 0, Value.int .u8 0, Value.int .u8 0, Value.int .u8 0, Value.int .u8 0, Value.int .u8 0, Value.int .u8 0, Value.int .u8 0, Value.int .u8 0, Value.int .u8 0, Value.int .u8 0, Value.int .u8 0, Value.int .u8 0, Value.int .u8 0, Value.int .u8 0, Value.int .u8 0, Value.int .u8 0, Value.int .u8 0, Value.int .u8 0, Value.int .u8 0, Value.int .u8 0, Value.int .u8 0] 25) = w15 at *
                generalize w14.heap.size = tb at *
                rename World => w14
                refine hK.out _ _ (by first | exact ⟨row4 HTR.out.yx, HAT.out _ HW.out.bel⟩ | exact ⟨row4 (HTR.out.go (Below.refl _ _).drew).yx, HAT.out _ HW.out.drew.bel⟩) (fun hHeld => ?_)
                clear hK K
                try simp only [Act.put, List.setIfInBounds_toArray, List.set_cons_zero, List.set_cons_succ]
                refine two_to (i := 2) (j := 9) (l1 := #[true, true, true, true, true, true, true, true, false, false, true, false, false]) (l2 := #[true, true, false, true, true, true, true, true, false, true, true, false, false]) rfl rfl (by kernel_rfl) (by kernel_rfl) (by kernel_rfl) (fun K hK => ?_) (fun K hK => ?_)
                · skip
                  go_simp
                  refine (HAM.out w14 HW.out HTR.out HKY.out).mono ?_
                  rintro e w15 ⟨rfl, g15, k15⟩
                  replace HTR := Lib.hid (HTR.out.ch (Ch.gr g15) HNB.out)
                  replace HKY := Lib.hid (KY4.ch HKY.out (Ch.gr g15) HNB.out)
                  try replace HTa := Lib.hid (And.intro (HTa.out.1.gr g15 (HNB.out _ (Nat.le_trans HB13.out HTa.out.2))) HTa.out.2)
                  try replace HTb := Lib.hid (And.intro (HTb.out.1.gr g15 (HNB.out _ (Nat.le_trans HB13.out HTb.out.2))) HTb.out.2)
                  replace HW := Lib.hid (HW.out.told g15 k15)
                  replace HS3 := Lib.hid (Nat.le_trans HS3.out g15.size)
                  clear g15 k15
                  rename World => w14
                  dsimp only
                  refine hK.out _ _ (by first | exact ⟨row4 HTR.out.yx, HAT.out _ HW.out.bel⟩ | exact ⟨row4 (HTR.out.go (Below.refl _ _).drew).yx, HAT.out _ HW.out.drew.bel⟩) (fun hHeld => ?_)
                  clear hK K
                  try simp only [Act.put, List.setIfInBounds_toArray, List.set_cons_zero, List.set_cons_succ]
                  refine two_to (i := 8) (j := 9) (l1 := #[true, true, true, true, true, true, true, true, true, false, true, false, false]) (l2 := #[true, true, true, true, true, true, true, true, false, true, true, false, false]) rfl rfl (by kernel_rfl) (by kernel_rfl) (by kernel_rfl) (fun K hK => ?_) (fun K hK => ?_)
                  · skip
                    go_simp
                    refine (HAR.out w14 HW.out).mono ?_
                    rintro e w15 ⟨av2, rfl, g15, k15⟩
                    replace HTR := Lib.hid (HTR.out.ch (Ch.rch g15) HNR.out)
                    replace HKY := Lib.hid (KY4.ch HKY.out (Ch.rch g15) HNR.out)
                    try replace HTa := Lib.hid (And.intro (g15.bt HTa.out.1 (fun e => HNR.out _ (Nat.le_trans HB13.out HTa.out.2) (.inl e)) (fun e => HNR.out _ (Nat.le_trans HB13.out HTa.out.2) (.inr e))) HTa.out.2)
                    try replace HTb := Lib.hid (And.intro (g15.bt HTb.out.1 (fun e => HNR.out _ (Nat.le_trans HB13.out HTb.out.2) (.inl e)) (fun e => HNR.out _ (Nat.le_trans HB13.out HTb.out.2) (.inr e))) HTb.out.2)
                    replace HW := Lib.hid k15
                    replace HS3 := Lib.hid (Nat.le_trans HS3.out g15.size)
                    clear g15 k15
                    rename World => w14
                    dsimp only
                    refine hK.out _ _ (by first | exact ⟨row4 HTR.out.yx, HAT.out _ HW.out.bel⟩ | exact ⟨row4 (HTR.out.go (Below.refl _ _).drew).yx, HAT.out _ HW.out.drew.bel⟩) (fun hHeld => ?_)
                    clear hK K
                    try simp only [Act.put, List.setIfInBounds_toArray, List.set_cons_zero, List.set_cons_succ]
                    refine one_to (i := 9) (l' := #[true, true, true, true, true, true, true, true, true, true, true, false, false]) rfl (by kernel_rfl) (by kernel_rfl) (fun K hK => ?_)
                    go_simp
                    have hal := below_al w14 (.cells #[Value.int .u8 0, Value.int .u8 0, Value.int .u8 0, Value.int .u8 0, Value.int .u8 0, Value.int .u8 0, Value.int .u8 0, Value.int .u8 0, Value.int .u8 0, Value.int .u8 0, Value.int .u8 0, Value.int .u8 0, Value.int .u8 0, Value.int .u8 0, Value.int .u8 0, Value.int .u8 0, Value.int .u8 0, Value.int .u8 0, Value.int .u8 0, Value.int .u8 0, Value.int .u8 0, Value.int .u8 0, Value.int .u8 0, Value.int .u8 0, Value.int .u8 0, Value.int .u8 0, Value.int .u8 0, Value.int .u8 0, Value.int .u8 0, Value.int .u8 0, Value.int .u8 0, Value.int .u8 0] 25)
                    have hbt := BT.of_cells (n := 32) (f := fun _ => 0#8) (laid_at (W := w14) (o := (.cells #[Value.int .u8 0, Value.int .u8 0, Value.int .u8 0, Value.int .u8 0, Value.int .u8 0, Value.int .u8 0, Value.int .u8 0, Value.int .u8 0, Value.int .u8 0, Value.int .u8 0, Value.int .u8 0, Value.int .u8 0, Value.int .u8 0, Value.int .u8 0, Value.int .u8 0, Value.int .u8 0, Value.int .u8 0, Value.int .u8 0, Value.int .u8 0, Value.int .u8 0, Value.int .u8 0, Value.int .u8 0, Value.int .u8 0, Value.int .u8 0, Value.int .u8 0, Value.int .u8 0, Value.int .u8 0, Value.int .u8 0, Value.int .u8 0, Value.int .u8 0, Value.int .u8 0, Value.int .u8 0] 25)) rfl) (fun i hi => zero_atL 32 i hi)
                    replace HW := Lib.hid (HW.out.go hal)
                    replace HTR := Lib.hid (HTR.out.go hal)
                    replace HKY := Lib.hid (HKY.out.go hal)
                    try have HAB := Lib.hid (show w14.heap.size ≠ tb from Ne.symm (Nat.ne_of_lt HTb.out.1.lt))
                    try replace HTb := Lib.hid (And.intro (HTb.out.1.below' hal) HTb.out.2)
                    have HTa := Lib.hid (And.intro hbt (HS3.out))
                    replace HS3 := Lib.hid (Nat.le_trans HS3.out hal.size)
                    clear hal hbt
                    generalize w14.alloc (.cells #[Value.int .u8 0, Value.int .u8 0, Value.int .u8 0, Value.int .u8 0, Value.int .u8 0, Value.int .u8 0, Value.int .u8 0, Value.int .u8 0, Value.int .u8 0, Value.int .u8 0, Value.int .u8 0, Value.int .u8 0, Value.int .u8 0, Value.int .u8 0, Value.int .u8 0, Value.int .u8 0, Value.int .u8 0, Value.int .u8 0, Value.int .u8 0, Value.int .u8 0, Value.int .u8 0, Value.int .u8 0, Value.int .u8 0, Value.int .u8 0, Value.int .u8 0, Value.int .u8 0, Value.int .u8 0, Value.int .u8 0, Value.int .u8 0, Value.int .u8 0, Value.int .u8 0, Value.int .u8 0] 25) = w15 at *
                    generalize w14.heap.size = ta at *
                    rename World => w14
                    refine hK.out _ _ (by first | exact ⟨row4 HTR.out.yx, HAT.out _ HW.out.bel⟩ | exact ⟨row4 (HTR.out.go (Below.refl _ _).drew).yx, HAT.out _ HW.out.drew.bel⟩) (fun hHeld => ?_)
                    clear hK K
                    try simp only [Act.put, List.setIfInBounds_toArray, List.set_cons_zero, List.set_cons_succ]
                    refine one_to (i := 11) (l' := #[true, true, true, true, true, true, true, true, true, true, true, true, false]) rfl (by kernel_rfl) (by kernel_rfl) (fun K hK => ?_)
                    refine wp_store_mid 25 _ _ rfl ta 0 (tagC s).toArray rfl rfl (by simpa [tagC_len] using HTa.out.1.there 32 (Nat.le_refl _)) (by simp [infoTag, tagC_len]) (tagC_one _) ?_
                    rw [List.toList_toArray]
                    have gs := gr_setCells (hb := ta) (tagC s) 0 w14
                    have hbt := HTa.out.1.setFirst (f' := s) 32 (Nat.le_refl _) (tagC s) rfl (fun j h1 h2 => by omega)
                    replace HW := Lib.hid (HW.out.ch (Ch.gr gs) (fun k hk e => by have e : k = ta := e; have := HTa.out.2; have := HB0.out; have := HB13.out; omega) (fun q hq e => HW.out.off HTa.out.1 HPL.out (by rw [hq, e])))
                    replace HTR := Lib.hid (HTR.out.tag HUP.out HTa.out.2 gs)
                    replace HKY := Lib.hid (KY4.tag HKY.out HUP.out.2.1 HTa.out.2 gs)
                    replace HTb := Lib.hid (And.intro (HTb.out.1.gr gs HAB.out.symm) HTb.out.2)
                    replace HTa := Lib.hid (And.intro hbt HTa.out.2)
                    replace HS3 := Lib.hid (Nat.le_trans HS3.out gs.size)
                    clear gs hbt
                    generalize w14.setCells ta 0 (tagC s) = w15 at *
                    rename World => w14
                    refine hK.out _ _ (by first | exact ⟨row4 HTR.out.yx, HAT.out _ HW.out.bel⟩ | exact ⟨row4 (HTR.out.go (Below.refl _ _).drew).yx, HAT.out _ HW.out.drew.bel⟩) (fun hHeld => ?_)
                    clear hK K
                    try simp only [Act.put, List.setIfInBounds_toArray, List.set_cons_zero, List.set_cons_succ]
                    refine one_to (i := 12) (l' := #[true, true, true, true, true, true, true, true, true, true, true, true, true]) rfl (by kernel_rfl) (by kernel_rfl) (fun K hK => ?_)
                    refine wp_store_mid 25 _ _ rfl tb 0 (tagC s).toArray rfl rfl (by simpa [tagC_len] using HTb.out.1.there 32 (Nat.le_refl _)) (by simp [infoTag, tagC_len]) (tagC_one _) ?_
                    rw [List.toList_toArray]
                    have gs := gr_setCells (hb := tb) (tagC s) 0 w14
                    have hbt := HTb.out.1.setFirst (f' := s) 32 (Nat.le_refl _) (tagC s) rfl (fun j h1 h2 => by omega)
                    replace HW := Lib.hid (HW.out.ch (Ch.gr gs) (fun k hk e => by have e : k = tb := e; have := HTb.out.2; have := HB0.out; have := HB13.out; omega) (fun q hq e => HW.out.off HTb.out.1 HPL.out (by rw [hq, e])))
                    replace HTR := Lib.hid (HTR.out.tag HUP.out HTb.out.2 gs)
                    replace HKY := Lib.hid (KY4.tag HKY.out HUP.out.2.1 HTb.out.2 gs)
                    replace HTa := Lib.hid (And.intro (HTa.out.1.gr gs HAB.out) HTa.out.2)
                    replace HTb := Lib.hid (And.intro hbt HTb.out.2)
                    replace HS3 := Lib.hid (Nat.le_trans HS3.out gs.size)
                    clear gs hbt
                    generalize w14.setCells tb 0 (tagC s) = w15 at *
                    rename World => w14
                    refine hK.out _ _ (by first | exact ⟨row4 HTR.out.yx, HAT.out _ HW.out.bel⟩ | exact ⟨row4 (HTR.out.go (Below.refl _ _).drew).yx, HAT.out _ HW.out.drew.bel⟩) (fun hHeld => ?_)
                    clear hK K
                    try simp only [Act.put, List.setIfInBounds_toArray, List.set_cons_zero, List.set_cons_succ]
                    refine wpAnyH_done (by kernel_rfl) ?_ _
                    refine NoPanic.normal ?_
                    clear hHeld
                    go_wp2_with fail
                    go_meet
                    exact ⟨ta, tb, _, rfl, rfl, HW.out, HTR.out, HKY.out, HTa.out.1, HTb.out.1⟩
                  · skip
                    go_simp
                    have hal := below_al w14 (.cells #[Value.int .u8 0, Value.int .u8 0, Value.int .u8 0, Value.int .u8 0, Value.int .u8 0, Value.int .u8 0, Value.int .u8 0, Value.int .u8 0, Value.int .u8 0, Value.int .u8 0, Value.int .u8 0, Value.int .u8 0, Value.int .u8 0, Value.int .u8 0, Value.int .u8 0, Value.int .u8 0, Value.int .u8 0, Value.int .u8 0, Value.int .u8 0, Value.int .u8 0, Value.int .u8 0, Value.int .u8 0, Value.int .u8 0, Value.int .u8 0, Value.int .u8 0, Value.int .u8 0, Value.int .u8 0, Value.int .u8 0, Value.int .u8 0, Value.int .u8 0, Value.int .u8 0, Value.int .u8 0] 25)
                    have hbt := BT.of_cells (n := 32) (f := fun _ => 0#8) (laid_at (W := w14) (o := (.cells #[Value.int .u8 0, Value.int .u8 0, Value.int .u8 0, Value.int .u8 0, Value.int .u8 0, Value.int .u8 0, Value.int .u8 0, Value.int .u8 0, Value.int .u8 0, Value.int .u8 0, Value.int .u8 0, Value.int .u8 0, Value.int .u8 0, Value.int .u8 0, Value.int .u8 0, Value.int .u8 0, Value.int .u8 0, Value.int .u8 0, Value.int .u8 0, Value.int .u8 0, Value.int .u8 0, Value.int .u8 0, Value.int .u8 0, Value.int .u8 0, Value.int .u8 0, Value.int .u8 0, Value.int .u8 0, Value.int .u8 0, Value.int .u8 0, Value.int .u8 0, Value.int .u8 0, Value.int .u8 0] 25)) rfl) (fun i hi => zero_atL 32 i hi)
                    replace HW := Lib.hid (HW.out.go hal)
                    replace HTR := Lib.hid (HTR.out.go hal)
                    replace HKY := Lib.hid (HKY.out.go hal)
                    try have HAB := Lib.hid (show w14.heap.size ≠ tb from Ne.symm (Nat.ne_of_lt HTb.out.1.lt))
                    try replace HTb := Lib.hid (And.intro (HTb.out.1.below' hal) HTb.out.2)
                    have HTa := Lib.hid (And.intro hbt (HS3.out))
                    replace HS3 := Lib.hid (Nat.le_trans HS3.out hal.size)
                    clear hal hbt
                    generalize w14.alloc (.cells #[Value.int .u8 0, Value.int .u8 0, Value.int .u8 0, Value.int .u8 0, Value.int .u8 0, Value.int .u8 0, Value.int .u8 0, Value.int .u8 0, Value.int .u8 0, Value.int .u8 0, Value.int .u8 0, Value.int .u8 0, Value.int .u8 0, Value.int .u8 0, Value.int .u8 0, Value.int .u8 0, Value.int .u8 0, Value.int .u8 0, Value.int .u8 0, Value.int .u8 0, Value.int .u8 0, Value.int .u8 0, Value.int .u8 0, Value.int .u8 0, Value.int .u8 0, Value.int .u8 0, Value.int .u8 0, Value.int .u8 0, Value.int .u8 0, Value.int .u8 0, Value.int .u8 0, Value.int .u8 0] 25) = w15 at *
                    generalize w14.heap.size = ta at *
                    rename World => w14
                    refine hK.out _ _ (by first | exact ⟨row4 HTR.out.yx, HAT.out _ HW.out.bel⟩ | exact ⟨row4 (HTR.out.go (Below.refl _ _).drew).yx, HAT.out _ HW.out.drew.bel⟩) (fun hHeld => ?_)
                    clear hK K
                    try simp only [Act.put, List.setIfInBounds_toArray, List.set_cons_zero, List.set_cons_succ]
                    refine one_to (i := 8) (l' := #[true, true, true, true, true, true, true, true, true, true, true, false, false]) rfl (by kernel_rfl) (by kernel_rfl) (fun K hK => ?_)
                    go_simp
                    refine (HAR.out w14 HW.out).mono ?_
                    rintro e w15 ⟨av2, rfl, g15, k15⟩
                    replace HTR := Lib.hid (HTR.out.ch (Ch.rch g15) HNR.out)
                    replace HKY := Lib.hid (KY4.ch HKY.out (Ch.rch g15) HNR.out)
                    try replace HTa := Lib.hid (And.intro (g15.bt HTa.out.1 (fun e => HNR.out _ (Nat.le_trans HB13.out HTa.out.2) (.inl e)) (fun e => HNR.out _ (Nat.le_trans HB13.out HTa.out.2) (.inr e))) HTa.out.2)
                    try replace HTb := Lib.hid (And.intro (g15.bt HTb.out.1 (fun e => HNR.out _ (Nat.le_trans HB13.out HTb.out.2) (.inl e)) (fun e => HNR.out _ (Nat.le_trans HB13.out HTb.out.2) (.inr e))) HTb.out.2)
                    replace HW := Lib.hid k15
                    replace HS3 := Lib.hid (Nat.le_trans HS3.out g15.size)
                    clear g15 k15
                    rename World => w14
                    dsimp only
                    refine hK.out _ _ (by first | exact ⟨row4 HTR.out.yx, HAT.out _ HW.out.bel⟩ | exact ⟨row4 (HTR.out.go (Below.refl _ _).drew).yx, HAT.out _ HW.out.drew.bel⟩) (fun hHeld => ?_)
                    clear hK K
                    try simp only [Act.put, List.setIfInBounds_toArray, List.set_cons_zero, List.set_cons_succ]
                    refine one_to (i := 11) (l' := #[true, true, true, true, true, true, true, true, true, true, true, true, false]) rfl (by kernel_rfl) (by kernel_rfl) (fun K hK => ?_)
                    refine wp_store_mid 25 _ _ rfl ta 0 (tagC s).toArray rfl rfl (by simpa [tagC_len] using HTa.out.1.there 32 (Nat.le_refl _)) (by simp [infoTag, tagC_len]) (tagC_one _) ?_
                    rw [List.toList_toArray]
                    have gs := gr_setCells (hb := ta) (tagC s) 0 w14
                    have hbt := HTa.out.1.setFirst (f' := s) 32 (Nat.le_refl _) (tagC s) rfl (fun j h1 h2 => by omega)
                    replace HW := Lib.hid (HW.out.ch (Ch.gr gs) (fun k hk e => by have e : k = ta := e; have := HTa.out.2; have := HB0.out; have := HB13.out; omega) (fun q hq e => HW.out.off HTa.out.1 HPL.out (by rw [hq, e])))
                    replace HTR := Lib.hid (HTR.out.tag HUP.out HTa.out.2 gs)
                    replace HKY := Lib.hid (KY4.tag HKY.out HUP.out.2.1 HTa.out.2 gs)
                    replace HTb := Lib.hid (And.intro (HTb.out.1.gr gs HAB.out.symm) HTb.out.2)
                    replace HTa := Lib.hid (And.intro hbt HTa.out.2)
                    replace HS3 := Lib.hid (Nat.le_trans HS3.out gs.size)
                    clear gs hbt
                    generalize w14.setCells ta 0 (tagC s) = w15 at *
                    rename World => w14
                    refine hK.out _ _ (by first | exact ⟨row4 HTR.out.yx, HAT.out _ HW.out.bel⟩ | exact ⟨row4 (HTR.out.go (Below.refl _ _).drew).yx, HAT.out _ HW.out.drew.bel⟩) (fun hHeld => ?_)
                    clear hK K
                    try simp only [Act.put, List.setIfInBounds_toArray, List.set_cons_zero, List.set_cons_succ]
                    refine one_to (i := 12) (l' := #[true, true, true, true, true, true, true, true, true, true, true, true, true]) rfl (by kernel_rfl) (by kernel_rfl) (fun K hK => ?_)
                    refine wp_store_mid 25 _ _ rfl tb 0 (tagC s).toArray rfl rfl (by simpa [tagC_len] using HTb.out.1.there 32 (Nat.le_refl _)) (by simp [infoTag, tagC_len]) (tagC_one _) ?_
                    rw [List.toList_toArray]
                    have gs := gr_setCells (hb := tb) (tagC s) 0 w14
                    have hbt := HTb.out.1.setFirst (f' := s) 32 (Nat.le_refl _) (tagC s) rfl (fun j h1 h2 => by omega)
                    replace HW := Lib.hid (HW.out.ch (Ch.gr gs) (fun k hk e => by have e : k = tb := e; have := HTb.out.2; have := HB0.out; have := HB13.out; omega) (fun q hq e => HW.out.off HTb.out.1 HPL.out (by rw [hq, e])))
                    replace HTR := Lib.hid (HTR.out.tag HUP.out HTb.out.2 gs)
                    replace HKY := Lib.hid (KY4.tag HKY.out HUP.out.2.1 HTb.out.2 gs)
                    replace HTa := Lib.hid (And.intro (HTa.out.1.gr gs HAB.out) HTa.out.2)
                    replace HTb := Lib.hid (And.intro hbt HTb.out.2)
                    replace HS3 := Lib.hid (Nat.le_trans HS3.out gs.size)
                    clear gs hbt
                    generalize w14.setCells tb 0 (tagC s) = w15 at *
                    rename World => w14
                    refine hK.out _ _ (by first | exact ⟨row4 HTR.out.yx, HAT.out _ HW.out.bel⟩ | exact ⟨row4 (HTR.out.go (Below.refl _ _).drew).yx, HAT.out _ HW.out.drew.bel⟩) (fun hHeld => ?_)
                    clear hK K
                    try simp only [Act.put, List.setIfInBounds_toArray, List.set_cons_zero, List.set_cons_succ]
                    refine wpAnyH_done (by kernel_rfl) ?_ _
                    refine NoPanic.normal ?_
                    clear hHeld
                    go_wp2_with fail
                    go_meet
                    exact ⟨ta, tb, _, rfl, rfl, HW.out, HTR.out, HKY.out, HTa.out.1, HTb.out.1⟩
                · skip
                  go_simp
                  have hal := below_al w14 (.cells #[Value.int .u8 0, Value.int .u8 0, Value.int .u8 0, Value.int .u8 0, Value.int .u8 0, Value.int .u8 0, Value.int .u8 0, Value.int .u8 0, Value.int .u8 0, Value.int .u8 0, Value.int .u8 0, Value.int .u8 0, Value.int .u8 0, Value.int .u8 0, Value.int .u8 0, Value.int .u8 0, Value.int .u8 0, Value.int .u8 0, Value.int .u8 0, Value.int .u8 0, Value.int .u8 0, Value.int .u8 0, Value.int .u8 0, Value.int .u8 0, Value.int .u8 0, Value.int .u8 0, Value.int .u8 0, Value.int .u8 0, Value.int .u8 0, Value.int .u8 0, Value.int .u8 0, Value.int .u8 0] 25)
                  have hbt := BT.of_cells (n := 32) (f := fun _ => 0#8) (laid_at (W := w14) (o := (.cells #[Value.int .u8 0, Value.int .u8 0, Value.int .u8 0, Value.int .u8 0, Value.int .u8 0, Value.int .u8 0, Value.int .u8 0, Value.int .u8 0, Value.int .u8 0, Value.int .u8 0, Value.int .u8 0, Value.int .u8 0, Value.int .u8 0, Value.int .u8 0, Value.int .u8 0, Value.int .u8 0, Value.int .u8 0, Value.int .u8 0, Value.int .u8 0, Value.int .u8 0, Value.int .u8 0, Value.int .u8 0, Value.int .u8 0, Value.int .u8 0, Value.int .u8 0, Value.int .u8 0, Value.int .u8 0, Value.int .u8 0, Value.int .u8 0, Value.int .u8 0, Value.int .u8 0, Value.int .u8 0] 25)) rfl) (fun i hi => zero_atL 32 i hi)
                  replace HW := Lib.hid (HW.out.go hal)
                  replace HTR := Lib.hid (HTR.out.go hal)
                  replace HKY := Lib.hid (HKY.out.go hal)
                  try have HAB := Lib.hid (show w14.heap.size ≠ tb from Ne.symm (Nat.ne_of_lt HTb.out.1.lt))
                  try replace HTb := Lib.hid (And.intro (HTb.out.1.below' hal) HTb.out.2)
                  have HTa := Lib.hid (And.intro hbt (HS3.out))
                  replace HS3 := Lib.hid (Nat.le_trans HS3.out hal.size)
                  clear hal hbt
                  generalize w14.alloc (.cells #[Value.int .u8 0, Value.int .u8 0, Value.int .u8 0, Value.int .u8 0, Value.int .u8 0, Value.int .u8 0, Value.int .u8 0, Value.int .u8 0, Value.int .u8 0, Value.int .u8 0, Value.int .u8 0, Value.int .u8 0, Value.int .u8 0, Value.int .u8 0, Value.int .u8 0, Value.int .u8 0, Value.int .u8 0, Value.int .u8 0, Value.int .u8 0, Value.int .u8 0, Value.int .u8 0, Value.int .u8 0, Value.int .u8 0, Value.int .u8 0, Value.int .u8 0, Value.int .u8 0, Value.int .u8 0, Value.int .u8 0, Value.int .u8 0, Value.int .u8 0, Value.int .u8 0, Value.int .u8 0] 25) = w15 at *
                  generalize w14.heap.size = ta at *
                  rename World => w14
                  refine hK.out _ _ (by first | exact ⟨row4 HTR.out.yx, HAT.out _ HW.out.bel⟩ | exact ⟨row4 (HTR.out.go (Below.refl _ _).drew).yx, HAT.out _ HW.out.drew.bel⟩) (fun hHeld => ?_)
                  clear hK K
                  try simp only [Act.put, List.setIfInBounds_toArray, List.set_cons_zero, List.set_cons_succ]
                  refine one_to (i := 2) (l' := #[true, true, true, true, true, true, true, true, false, true, true, false, false]) rfl (by kernel_rfl) (by kernel_rfl) (fun K hK => ?_)
                  go_simp
                  refine (HAM.out w14 HW.out HTR.out HKY.out).mono ?_
                  rintro e w15 ⟨rfl, g15, k15⟩
                  replace HTR := Lib.hid (HTR.out.ch (Ch.gr g15) HNB.out)
                  replace HKY := Lib.hid (KY4.ch HKY.out (Ch.gr g15) HNB.out)
                  try replace HTa := Lib.hid (And.intro (HTa.out.1.gr g15 (HNB.out _ (Nat.le_trans HB13.out HTa.out.2))) HTa.out.2)
                  try replace HTb := Lib.hid (And.intro (HTb.out.1.gr g15 (HNB.out _ (Nat.le_trans HB13.out HTb.out.2))) HTb.out.2)
                  replace HW := Lib.hid (HW.out.told g15 k15)
                  replace HS3 := Lib.hid (Nat.le_trans HS3.out g15.size)
                  clear g15 k15
                  rename World => w14
                  dsimp only
                  refine hK.out _ _ (by first | exact ⟨row4 HTR.out.yx, HAT.out _ HW.out.bel⟩ | exact ⟨row4 (HTR.out.go (Below.refl _ _).drew).yx, HAT.out _ HW.out.drew.bel⟩) (fun hHeld => ?_)
                  clear hK K
                  try simp only [Act.put, List.setIfInBounds_toArray, List.set_cons_zero, List.set_cons_succ]
                  refine one_to (i := 8) (l' := #[true, true, true, true, true, true, true, true, true, true, true, false, false]) rfl (by kernel_rfl) (by kernel_rfl) (fun K hK => ?_)
                  go_simp
                  refine (HAR.out w14 HW.out).mono ?_
                  rintro e w15 ⟨av2, rfl, g15, k15⟩
                  replace HTR := Lib.hid (HTR.out.ch (Ch.rch g15) HNR.out)
                  replace HKY := Lib.hid (KY4.ch HKY.out (Ch.rch g15) HNR.out)
                  try replace HTa := Lib.hid (And.intro (g15.bt HTa.out.1 (fun e => HNR.out _ (Nat.le_trans HB13.out HTa.out.2) (.inl e)) (fun e => HNR.out _ (Nat.le_trans HB13.out HTa.out.2) (.inr e))) HTa.out.2)
                  try replace HTb := Lib.hid (And.intro (g15.bt HTb.out.1 (fun e => HNR.out _ (Nat.le_trans HB13.out HTb.out.2) (.inl e)) (fun e => HNR.out _ (Nat.le_trans HB13.out HTb.out.2) (.inr e))) HTb.out.2)
                  replace HW := Lib.hid k15
                  replace HS3 := Lib.hid (Nat.le_trans HS3.out g15.size)
                  clear g15 k15
                  rename World => w14
                  dsimp only
                  refine hK.out _ _ (by first | exact ⟨row4 HTR.out.yx, HAT.out _ HW.out.bel⟩ | exact ⟨row4 (HTR.out.go (Below.refl _ _).drew).yx, HAT.out _ HW.out.drew.bel⟩) (fun hHeld => ?_)
                  clear hK K
                  try simp only [Act.put, List.setIfInBounds_toArray, List.set_cons_zero, List.set_cons_succ]
                  refine one_to (i := 11) (l' := #[true, true, true, true, true, true, true, true, true, true, true, true, false]) rfl (by kernel_rfl) (by kernel_rfl) (fun K hK => ?_)
                  refine wp_store_mid 25 _ _ rfl ta 0 (tagC s).toArray rfl rfl (by simpa [tagC_len] using HTa.out.1.there 32 (Nat.le_refl _)) (by simp [infoTag, tagC_len]) (tagC_one _) ?_
                  rw [List.toList_toArray]
                  have gs := gr_setCells (hb := ta) (tagC s) 0 w14
                  have hbt := HTa.out.1.setFirst (f' := s) 32 (Nat.le_refl _) (tagC s) rfl (fun j h1 h2 => by omega)
                  replace HW := Lib.hid (HW.out.ch (Ch.gr gs) (fun k hk e => by have e : k = ta := e; have := HTa.out.2; have := HB0.out; have := HB13.out; omega) (fun q hq e => HW.out.off HTa.out.1 HPL.out (by rw [hq, e])))
                  replace HTR := Lib.hid (HTR.out.tag HUP.out HTa.out.2 gs)
                  replace HKY := Lib.hid (KY4.tag HKY.out HUP.out.2.1 HTa.out.2 gs)
                  replace HTb := Lib.hid (And.intro (HTb.out.1.gr gs HAB.out.symm) HTb.out.2)
                  replace HTa := Lib.hid (And.intro hbt HTa.out.2)
                  replace HS3 := Lib.hid (Nat.le_trans HS3.out gs.size)
                  clear gs hbt
                  generalize w14.setCells ta 0 (tagC s) = w15 at *
                  rename World => w14
                  refine hK.out _ _ (by first | exact ⟨row4 HTR.out.yx, HAT.out _ HW.out.bel⟩ | exact ⟨row4 (HTR.out.go (Below.refl _ _).drew).yx, HAT.out _ HW.out.drew.bel⟩) (fun hHeld => ?_)
                  clear hK K
                  try simp only [Act.put, List.setIfInBounds_toArray, List.set_cons_zero, List.set_cons_succ]
                  refine one_to (i := 12) (l' := #[true, true, true, true, true, true, true, true, true, true, true, true, true]) rfl (by kernel_rfl) (by kernel_rfl) (fun K hK => ?_)
                  refine wp_store_mid 25 _ _ rfl tb 0 (tagC s).toArray rfl rfl (by simpa [tagC_len] using HTb.out.1.there 32 (Nat.le_refl _)) (by simp [infoTag, tagC_len]) (tagC_one _) ?_
                  rw [List.toList_toArray]
                  have gs := gr_setCells (hb := tb) (tagC s) 0 w14
                  have hbt := HTb.out.1.setFirst (f' := s) 32 (Nat.le_refl _) (tagC s) rfl (fun j h1 h2 => by omega)
                  replace HW := Lib.hid (HW.out.ch (Ch.gr gs) (fun k hk e => by have e : k = tb := e; have := HTb.out.2; have := HB0.out; have := HB13.out; omega) (fun q hq e => HW.out.off HTb.out.1 HPL.out (by rw [hq, e])))
                  replace HTR := Lib.hid (HTR.out.tag HUP.out HTb.out.2 gs)
                  replace HKY := Lib.hid (KY4.tag HKY.out HUP.out.2.1 HTb.out.2 gs)
                  replace HTa := Lib.hid (And.intro (HTa.out.1.gr gs HAB.out) HTa.out.2)
                  replace HTb := Lib.hid (And.intro hbt HTb.out.2)
                  replace HS3 := Lib.hid (Nat.le_trans HS3.out gs.size)
                  clear gs hbt
                  generalize w14.setCells tb 0 (tagC s) = w15 at *
                  rename World => w14
                  refine hK.out _ _ (by first | exact ⟨row4 HTR.out.yx, HAT.out _ HW.out.bel⟩ | exact ⟨row4 (HTR.out.go (Below.refl _ _).drew).yx, HAT.out _ HW.out.drew.bel⟩) (fun hHeld => ?_)
                  clear hK K
                  try simp only [Act.put, List.setIfInBounds_toArray, List.set_cons_zero, List.set_cons_succ]
                  refine wpAnyH_done (by kernel_rfl) ?_ _
                  refine NoPanic.normal ?_
                  clear hHeld
                  go_wp2_with fail
                  go_meet
                  exact ⟨ta, tb, _, rfl, rfl, HW.out, HTR.out, HKY.out, HTa.out.1, HTb.out.1⟩
            case rest =>
              obtain ⟨ta, tb, av', rfl, rfl, hw, htr, hky, hta, htb⟩ := hcut
              clear HW HTR HKY HAM HAR HNB HNR HUP HS3
              have HW := Lib.hid hw
              have HTR := Lib.hid htr
              have HKY := Lib.hid hky
              have HTT := Lib.hid (And.intro hta htb)
              clear hw htr hky hta htb
              obtain ⟨n, hn⟩ : ∃ n, L2.length = n := ⟨_, rfl⟩
              have HN := Lib.hid hn
              have HLB1 := Lib.hid (show L2.length ≤ 1000000 by have := HL2.out; omega)
              have HLB2 := Lib.hid (show L2.length ≤ 1000000000000 by have := HL2.out; omega)
              obtain ⟨pa, ca, hav⟩ := HW.out.r.form
              rw [hn] at hav
              subst hav
              obtain ⟨z1, hz1⟩ : ∃ z, toldB L2.length s = z := ⟨_, rfl⟩
              obtain ⟨z2, hz2⟩ : ∃ z, toldB L2.length d.t = z := ⟨_, rfl⟩
              have HZ1 := Lib.hid hz1
              have HZ2 := Lib.hid hz2
              have hzz1 : (z1 != z1) = false := by simp
              have hzz2 : (z2 != z2) = false := by simp
              have hNN : ((n : Int) != (n : Int)) = false := by simp
              have hRR : (d.real != d.real) = false := by simp
              have HKN := Lib.hid (show y.kn ≤ 4294967295 by unfold Ask.tot at hyt; omega)
              have he := neq_tag s
              have hgd := guard_tag s s
              clear hn hz1 hz2
              go_upto_region 17 with (fail)
              refine wp_region_noPanic ?_
              refine wp_region_start (n := 48) (l := #[false, false, false, false, false, false, false, false, false, false, false, false, false, false, false, false, false, false, false, false, false, false, false, false, false, false, false, false, false, false, false, false, false, false, false, false, false, false, false, false, false, false, false, false, false, false, false, false]) (S := (fun W => BT W ta 32 s ∧ BT W tb 32 s ∧ BT W w.heap.size 32 d.t ∧ (W.cell? ⟨b1, 0, none⟩ = some (.int .i64 y.what) ∧ W.cell? ⟨b1, 1, none⟩ = some (.slice (some ⟨gk, 0, none⟩) y.kn (y.kn + 12)) ∧ W.cell? ⟨b1, 2, none⟩ = some (.slice pv y.m cv) ∧ W.cell? ⟨b1, 3, none⟩ = some (.int .i64 y.k)) ∧ W.cell? ⟨d.rb, 2, none⟩ = some (.slice pa n ca) ∧ W.cell? ⟨b, off + i * 4 + 1, none⟩ = some (.slice y.kp y.kn y.kc))) (by kernel_rfl) rfl (by kernel_rfl) (by first | exact ⟨HTT.out.1, HTT.out.2, HW.out.box, row4 HTR.out.yx, HW.out.r.cells.2.2.1, (HAT.out _ HW.out.bel).2.1⟩ | exact ⟨HTT.out.1.drew, HTT.out.2.drew, HW.out.drew.box, row4 (HTR.out.go (Below.refl _ _).drew).yx, HW.out.drew.r.cells.2.2.1, (HAT.out _ HW.out.drew.bel).2.1⟩) (fun hHeld => ?_)
              replace HW := Lib.hid HW.out.drew
              replace HTR := Lib.hid (HTR.out.go (Below.refl _ _).drew)
              replace HKY := Lib.hid (HKY.out.go (Below.refl _ _).drew)
              replace HTT := Lib.hid (And.intro HTT.out.1.drew HTT.out.2.drew)
              generalize World.drew _ = V2 at hHeld HW HTR HKY HTT ⊢
              refine take_to (i := 0) (d := some 87) (v := (tagV s)) (l' := #[true, false, false, false, false, false, false, false, false, false, false, false, false, false, false, false, false, false, false, false, false, false, false, false, false, false, false, false, false, false, false, false, false, false, false, false, false, false, false, false, false, false, false, false, false, false, false, false]) rfl rfl (by kernel_rfl) (by kernel_rfl) (by kernel_rfl) (by kernel_rfl) (fun _ _ _ h => h) ?_ (by assumption) ?_
              · exact tag_load' (fun W h => h.1) (by rfl) rfl rfl
              try simp only [Act.put, List.setIfInBounds_toArray, List.set_cons_zero, List.set_cons_succ]
              refine take_to (i := 1) (d := some 88) (v := (tagV s)) (l' := #[true, true, false, false, false, false, false, false, false, false, false, false, false, false, false, false, false, false, false, false, false, false, false, false, false, false, false, false, false, false, false, false, false, false, false, false, false, false, false, false, false, false, false, false, false, false, false, false]) rfl rfl (by kernel_rfl) (by kernel_rfl) (by kernel_rfl) (by kernel_rfl) (fun _ _ _ h => h) ?_ (by assumption) ?_
              · exact tag_load' (fun W h => h.2.1) (by rfl) rfl rfl
              try simp only [Act.put, List.setIfInBounds_toArray, List.set_cons_zero, List.set_cons_succ]
              refine take_to (i := 2) (d := some 89) (v := ?_) (l' := #[true, true, true, false, false, false, false, false, false, false, false, false, false, false, false, false, false, false, false, false, false, false, false, false, false, false, false, false, false, false, false, false, false, false, false, false, false, false, false, false, false, false, false, false, false, false, false, false]) rfl rfl (by kernel_rfl) (by kernel_rfl) (by kernel_rfl) (by kernel_rfl) (fun _ _ _ h => h) (Or.inl ⟨by rfl, ?_⟩) (by assumption) ?_; rotate_left; · (intro w' hSw; (try dsimp only at hSw); go_simp; (try with_reducible rfl))
              try simp only [Act.put, List.setIfInBounds_toArray, List.set_cons_zero, List.set_cons_succ]
              refine take_to (i := 3) (d := some 90) (v := ?_) (l' := #[true, true, true, true, false, false, false, false, false, false, false, false, false, false, false, false, false, false, false, false, false, false, false, false, false, false, false, false, false, false, false, false, false, false, false, false, false, false, false, false, false, false, false, false, false, false, false, false]) rfl rfl (by kernel_rfl) (by kernel_rfl) (by kernel_rfl) (by kernel_rfl) (fun _ _ _ h => h) (Or.inl ⟨by rfl, ?_⟩) (by assumption) ?_; rotate_left; · (intro w' hSw; (try dsimp only at hSw); go_simp; (try with_reducible rfl))
              try simp only [Act.put, List.setIfInBounds_toArray, List.set_cons_zero, List.set_cons_succ]
              refine take_to (i := 4) (d := some 91) (v := ?_) (l' := #[true, true, true, true, true, false, false, false, false, false, false, false, false, false, false, false, false, false, false, false, false, false, false, false, false, false, false, false, false, false, false, false, false, false, false, false, false, false, false, false, false, false, false, false, false, false, false, false]) rfl rfl (by kernel_rfl) (by kernel_rfl) (by kernel_rfl) (by kernel_rfl) (fun _ _ _ h => h) (Or.inl ⟨by rfl, ?_⟩) (by assumption) ?_; rotate_left; · (intro w' hSw; (try dsimp only at hSw); go_simp; (try with_reducible rfl))
              try simp only [Act.put, List.setIfInBounds_toArray, List.set_cons_zero, List.set_cons_succ]
              refine take_to (i := 6) (d := some 93) (v := ?_) (l' := #[true, true, true, true, true, false, true, false, false, false, false, false, false, false, false, false, false, false, false, false, false, false, false, false, false, false, false, false, false, false, false, false, false, false, false, false, false, false, false, false, false, false, false, false, false, false, false, false]) rfl rfl (by kernel_rfl) (by kernel_rfl) (by kernel_rfl) (by kernel_rfl) (fun _ _ _ h => h) (Or.inl ⟨by rfl, ?_⟩) (by assumption) ?_; rotate_left; · (intro w' hSw; (try dsimp only at hSw); go_simp; (try with_reducible rfl))
              try simp only [Act.put, List.setIfInBounds_toArray, List.set_cons_zero, List.set_cons_succ]
              refine take_to (i := 7) (d := some 94) (v := ?_) (l' := #[true, true, true, true, true, false, true, true, false, false, false, false, false, false, false, false, false, false, false, false, false, false, false, false, false, false, false, false, false, false, false, false, false, false, false, false, false, false, false, false, false, false, false, false, false, false, false, false]) rfl rfl (by kernel_rfl) (by kernel_rfl) (by kernel_rfl) (by kernel_rfl) (fun _ _ _ h => h) (Or.inl ⟨by rfl, ?_⟩) (by assumption) ?_; rotate_left; · (intro w' hSw; (try dsimp only at hSw); go_simp; (try with_reducible rfl))
              try simp only [Act.put, List.setIfInBounds_toArray, List.set_cons_zero, List.set_cons_succ]
              refine take_to (i := 8) (d := some 95) (v := ?_) (l' := #[true, true, true, true, true, false, true, true, true, false, false, false, false, false, false, false, false, false, false, false, false, false, false, false, false, false, false, false, false, false, false, false, false, false, false, false, false, false, false, false, false, false, false, false, false, false, false, false]) rfl rfl (by kernel_rfl) (by kernel_rfl) (by kernel_rfl) (by kernel_rfl) (fun _ _ _ h => h) (Or.inl ⟨by rfl, ?_⟩) (by assumption) ?_; rotate_left; · (intro w' hSw; (try dsimp only at hSw); go_simp; (try with_reducible rfl))
              try simp only [Act.put, List.setIfInBounds_toArray, List.set_cons_zero, List.set_cons_succ]
              refine take_to (i := 9) (d := some 96) (v := ?_) (l' := #[true, true, true, true, true, false, true, true, true, true, false, false, false, false, false, false, false, false, false, false, false, false, false, false, false, false, false, false, false, false, false, false, false, false, false, false, false, false, false, false, false, false, false, false, false, false, false, false]) rfl rfl (by kernel_rfl) (by kernel_rfl) (by kernel_rfl) (by kernel_rfl) (fun _ _ _ h => h) (Or.inl ⟨by rfl, ?_⟩) (by assumption) ?_; rotate_left; · (intro w' hSw; (try dsimp only at hSw); go_simp; (try with_reducible rfl))
              try simp only [Act.put, List.setIfInBounds_toArray, List.set_cons_zero, List.set_cons_succ]
              refine take_to (i := 10) (d := some 97) (v := ?_) (l' := #[true, true, true, true, true, false, true, true, true, true, true, false, false, false, false, false, false, false, false, false, false, false, false, false, false, false, false, false, false, false, false, false, false, false, false, false, false, false, false, false, false, false, false, false, false, false, false, false]) rfl rfl (by kernel_rfl) (by kernel_rfl) (by kernel_rfl) (by kernel_rfl) (fun _ _ _ h => h) (Or.inl ⟨by rfl, ?_⟩) (by assumption) ?_; rotate_left; · (intro w' hSw; (try dsimp only at hSw); go_simp; (try with_reducible rfl))
              try simp only [Act.put, List.setIfInBounds_toArray, List.set_cons_zero, List.set_cons_succ]
              refine one_to (i := 5) (l' := #[true, true, true, true, true, true, true, true, true, true, true, false, false, false, false, false, false, false, false, false, false, false, false, false, false, false, false, false, false, false, false, false, false, false, false, false, false, false, false, false, false, false, false, false, false, false, false, false]) rfl (by kernel_rfl) (by kernel_rfl) (fun K hK => ?_)
              go_simp
              refine (lenM_any _ d.mb d.B d.real d.sv L2 HW.out.m HW.out.k).mono ?_
              rw [HN.out]
              rintro e w14 ⟨rfl, hb14⟩
              replace HW := Lib.hid (HW.out.go hb14)
              replace HTR := Lib.hid (HTR.out.go hb14)
              replace HKY := Lib.hid (HKY.out.go hb14)
              replace HTT := Lib.hid (And.intro (HTT.out.1.below' hb14) (HTT.out.2.below' hb14))
              clear hb14
              dsimp only
              refine hK.out _ _ (by first | exact ⟨HTT.out.1, HTT.out.2, HW.out.box, row4 HTR.out.yx, HW.out.r.cells.2.2.1, (HAT.out _ HW.out.bel).2.1⟩ | exact ⟨HTT.out.1.drew, HTT.out.2.drew, HW.out.drew.box, row4 (HTR.out.go (Below.refl _ _).drew).yx, HW.out.drew.r.cells.2.2.1, (HAT.out _ HW.out.drew.bel).2.1⟩) (fun hHeld => ?_)
              clear hK K
              try simp only [Act.put, List.setIfInBounds_toArray, List.set_cons_zero, List.set_cons_succ]
              refine take_to (i := 11) (d := some 98) (v := ?_) (l' := #[true, true, true, true, true, true, true, true, true, true, true, true, false, false, false, false, false, false, false, false, false, false, false, false, false, false, false, false, false, false, false, false, false, false, false, false, false, false, false, false, false, false, false, false, false, false, false, false]) rfl rfl (by kernel_rfl) (by kernel_rfl) (by kernel_rfl) (by kernel_rfl) (fun _ _ _ h => h) (Or.inl ⟨by rfl, ?_⟩) (by assumption) ?_; rotate_left; · (intro w' hSw; (try dsimp only at hSw); go_simp; (try with_reducible rfl))
              try simp only [Act.put, List.setIfInBounds_toArray, List.set_cons_zero, List.set_cons_succ]
              refine take_to (i := 12) (d := some 99) (v := ?_) (l' := #[true, true, true, true, true, true, true, true, true, true, true, true, true, false, false, false, false, false, false, false, false, false, false, false, false, false, false, false, false, false, false, false, false, false, false, false, false, false, false, false, false, false, false, false, false, false, false, false]) rfl rfl (by kernel_rfl) (by kernel_rfl) (by kernel_rfl) (by kernel_rfl) (fun _ _ _ h => h) (Or.inl ⟨by rfl, ?_⟩) (by assumption) ?_; rotate_left; · (intro w' hSw; (try dsimp only at hSw); go_simp; (try with_reducible rfl))
              try simp only [Act.put, List.setIfInBounds_toArray, List.set_cons_zero, List.set_cons_succ]
              refine take_to (i := 13) (d := some 100) (v := ?_) (l' := #[true, true, true, true, true, true, true, true, true, true, true, true, true, true, false, false, false, false, false, false, false, false, false, false, false, false, false, false, false, false, false, false, false, false, false, false, false, false, false, false, false, false, false, false, false, false, false, false]) rfl rfl (by kernel_rfl) (by kernel_rfl) (by kernel_rfl) (by kernel_rfl) (fun _ _ _ h => h) (Or.inl ⟨by rfl, ?_⟩) (by assumption) ?_; rotate_left; · (intro w' hSw; (try dsimp only at hSw); go_simp; (try with_reducible rfl))
              try simp only [Act.put, List.setIfInBounds_toArray, List.set_cons_zero, List.set_cons_succ]
              refine take_to (i := 14) (d := some 101) (v := ?_) (l' := #[true, true, true, true, true, true, true, true, true, true, true, true, true, true, true, false, false, false, false, false, false, false, false, false, false, false, false, false, false, false, false, false, false, false, false, false, false, false, false, false, false, false, false, false, false, false, false, false]) rfl rfl (by kernel_rfl) (by kernel_rfl) (by kernel_rfl) (by kernel_rfl) (fun _ _ _ h => h) (Or.inl ⟨by rfl, ?_⟩) (by assumption) ?_; rotate_left; · (intro w' hSw; (try dsimp only at hSw); go_simp; (try with_reducible rfl))
              try simp only [Act.put, List.setIfInBounds_toArray, List.set_cons_zero, List.set_cons_succ]
              refine take_to (i := 15) (d := some 102) (v := (tagV s)) (l' := #[true, true, true, true, true, true, true, true, true, true, true, true, true, true, true, true, false, false, false, false, false, false, false, false, false, false, false, false, false, false, false, false, false, false, false, false, false, false, false, false, false, false, false, false, false, false, false, false]) rfl rfl (by kernel_rfl) (by kernel_rfl) (by kernel_rfl) (by kernel_rfl) (fun _ _ _ h => h) ?_ (by assumption) ?_
              · exact tag_load' (fun W h => h.1) (by rfl) rfl rfl
              try simp only [Act.put, List.setIfInBounds_toArray, List.set_cons_zero, List.set_cons_succ]
              refine take_to (i := 17) (d := some 104) (v := ?_) (l' := #[true, true, true, true, true, true, true, true, true, true, true, true, true, true, true, true, false, true, false, false, false, false, false, false, false, false, false, false, false, false, false, false, false, false, false, false, false, false, false, false, false, false, false, false, false, false, false, false]) rfl rfl (by kernel_rfl) (by kernel_rfl) (by kernel_rfl) (by kernel_rfl) (fun _ _ _ h => h) (Or.inl ⟨by rfl, ?_⟩) (by assumption) ?_; rotate_left; · (intro w' hSw; (try dsimp only at hSw); go_simp; (try with_reducible rfl))
              try simp only [Act.put, List.setIfInBounds_toArray, List.set_cons_zero, List.set_cons_succ]
              refine take_to (i := 18) (d := some 105) (v := (tagV s)) (l' := #[true, true, true, true, true, true, true, true, true, true, true, true, true, true, true, true, false, true, true, false, false, false, false, false, false, false, false, false, false, false, false, false, false, false, false, false, false, false, false, false, false, false, false, false, false, false, false, false]) rfl rfl (by kernel_rfl) (by kernel_rfl) (by kernel_rfl) (by kernel_rfl) (fun _ _ _ h => h) ?_ (by assumption) ?_
              · exact tag_load' (fun W h => h.1) (by rfl) rfl rfl
              try simp only [Act.put, List.setIfInBounds_toArray, List.set_cons_zero, List.set_cons_succ]
              refine one_to (i := 16) (l' := #[true, true, true, true, true, true, true, true, true, true, true, true, true, true, true, true, true, true, true, false, false, false, false, false, false, false, false, false, false, false, false, false, false, false, false, false, false, false, false, false, false, false, false, false, false, false, false, false]) rfl (by kernel_rfl) (by kernel_rfl) (fun K hK => ?_)
              go_simp
              refine (toldM_any _ d.mb d.B d.real d.sv L2 s HW.out.m HW.out.k HLB2.out).mono ?_
              rw [HZ1.out]
              rintro e w14 ⟨rfl, hb14⟩
              replace HW := Lib.hid (HW.out.go hb14)
              replace HTR := Lib.hid (HTR.out.go hb14)
              replace HKY := Lib.hid (HKY.out.go hb14)
              replace HTT := Lib.hid (And.intro (HTT.out.1.below' hb14) (HTT.out.2.below' hb14))
              clear hb14
              dsimp only
              refine hK.out _ _ (by first | exact ⟨HTT.out.1, HTT.out.2, HW.out.box, row4 HTR.out.yx, HW.out.r.cells.2.2.1, (HAT.out _ HW.out.bel).2.1⟩ | exact ⟨HTT.out.1.drew, HTT.out.2.drew, HW.out.drew.box, row4 (HTR.out.go (Below.refl _ _).drew).yx, HW.out.drew.r.cells.2.2.1, (HAT.out _ HW.out.drew.bel).2.1⟩) (fun hHeld => ?_)
              clear hK K
              try simp only [Act.put, List.setIfInBounds_toArray, List.set_cons_zero, List.set_cons_succ]
              refine one_to (i := 19) (l' := #[true, true, true, true, true, true, true, true, true, true, true, true, true, true, true, true, true, true, true, true, false, false, false, false, false, false, false, false, false, false, false, false, false, false, false, false, false, false, false, false, false, false, false, false, false, false, false, false]) rfl (by kernel_rfl) (by kernel_rfl) (fun K hK => ?_)
              go_simp
              refine (rtold_any d.rb d.real _ _ d.b0 L2 s _ HLB1.out HW.out.r).mono ?_
              rw [HZ1.out]
              rintro e w14 ⟨rfl, hb14⟩
              replace HW := Lib.hid (HW.out.go hb14)
              replace HTR := Lib.hid (HTR.out.go hb14)
              replace HKY := Lib.hid (HKY.out.go hb14)
              replace HTT := Lib.hid (And.intro (HTT.out.1.below' hb14) (HTT.out.2.below' hb14))
              clear hb14
              dsimp only
              refine hK.out _ _ (by first | exact ⟨HTT.out.1, HTT.out.2, HW.out.box, row4 HTR.out.yx, HW.out.r.cells.2.2.1, (HAT.out _ HW.out.bel).2.1⟩ | exact ⟨HTT.out.1.drew, HTT.out.2.drew, HW.out.drew.box, row4 (HTR.out.go (Below.refl _ _).drew).yx, HW.out.drew.r.cells.2.2.1, (HAT.out _ HW.out.drew.bel).2.1⟩) (fun hHeld => ?_)
              clear hK K
              try simp only [Act.put, List.setIfInBounds_toArray, List.set_cons_zero, List.set_cons_succ]
              refine take_to (i := 20) (d := some 107) (v := ?_) (l' := #[true, true, true, true, true, true, true, true, true, true, true, true, true, true, true, true, true, true, true, true, true, false, false, false, false, false, false, false, false, false, false, false, false, false, false, false, false, false, false, false, false, false, false, false, false, false, false, false]) rfl rfl (by kernel_rfl) (by kernel_rfl) (by kernel_rfl) (by kernel_rfl) (fun _ _ _ h => h) (Or.inl ⟨by rfl, ?_⟩) (by assumption) ?_; rotate_left; · (intro w' hSw; (try dsimp only at hSw); go_simp; (try with_reducible rfl))
              try simp only [Act.put, List.setIfInBounds_toArray, List.set_cons_zero, List.set_cons_succ]
              refine take_to (i := 21) (d := some 108) (v := ?_) (l' := #[true, true, true, true, true, true, true, true, true, true, true, true, true, true, true, true, true, true, true, true, true, true, false, false, false, false, false, false, false, false, false, false, false, false, false, false, false, false, false, false, false, false, false, false, false, false, false, false]) rfl rfl (by kernel_rfl) (by kernel_rfl) (by kernel_rfl) (by kernel_rfl) (fun _ _ _ h => h) (Or.inl ⟨by rfl, ?_⟩) (by assumption) ?_; rotate_left; · (intro w' hSw; (try dsimp only at hSw); go_simp; (try with_reducible rfl))
              try simp only [Act.put, List.setIfInBounds_toArray, List.set_cons_zero, List.set_cons_succ]
              refine take_to (i := 22) (d := some 109) (v := ?_) (l' := #[true, true, true, true, true, true, true, true, true, true, true, true, true, true, true, true, true, true, true, true, true, true, true, false, false, false, false, false, false, false, false, false, false, false, false, false, false, false, false, false, false, false, false, false, false, false, false, false]) rfl rfl (by kernel_rfl) (by kernel_rfl) (by kernel_rfl) (by kernel_rfl) (fun _ _ _ h => h) (Or.inl ⟨by rfl, ?_⟩) (by assumption) ?_; rotate_left; · (intro w' hSw; (try dsimp only at hSw); go_simp; (try with_reducible rfl))
              try simp only [Act.put, List.setIfInBounds_toArray, List.set_cons_zero, List.set_cons_succ]
              refine take_to (i := 23) (d := some 110) (v := ?_) (l' := #[true, true, true, true, true, true, true, true, true, true, true, true, true, true, true, true, true, true, true, true, true, true, true, true, false, false, false, false, false, false, false, false, false, false, false, false, false, false, false, false, false, false, false, false, false, false, false, false]) rfl rfl (by kernel_rfl) (by kernel_rfl) (by kernel_rfl) (by kernel_rfl) (fun _ _ _ h => h) (Or.inl ⟨by rfl, ?_⟩) (by assumption) ?_; rotate_left; · (intro w' hSw; (try dsimp only at hSw); go_simp; (try with_reducible rfl))
              try simp only [Act.put, List.setIfInBounds_toArray, List.set_cons_zero, List.set_cons_succ]
              refine take_to (i := 24) (d := some 111) (v := (tagV d.t)) (l' := #[true, true, true, true, true, true, true, true, true, true, true, true, true, true, true, true, true, true, true, true, true, true, true, true, true, false, false, false, false, false, false, false, false, false, false, false, false, false, false, false, false, false, false, false, false, false, false, false]) rfl rfl (by kernel_rfl) (by kernel_rfl) (by kernel_rfl) (by kernel_rfl) (fun _ _ _ h => h) ?_ (by assumption) ?_
              · exact tag_load' (fun W h => h.2.2.1) (by rfl) rfl rfl
              try simp only [Act.put, List.setIfInBounds_toArray, List.set_cons_zero, List.set_cons_succ]
              refine take_to (i := 26) (d := some 113) (v := ?_) (l' := #[true, true, true, true, true, true, true, true, true, true, true, true, true, true, true, true, true, true, true, true, true, true, true, true, true, false, true, false, false, false, false, false, false, false, false, false, false, false, false, false, false, false, false, false, false, false, false, false]) rfl rfl (by kernel_rfl) (by kernel_rfl) (by kernel_rfl) (by kernel_rfl) (fun _ _ _ h => h) (Or.inl ⟨by rfl, ?_⟩) (by assumption) ?_; rotate_left; · (intro w' hSw; (try dsimp only at hSw); go_simp; (try with_reducible rfl))
              try simp only [Act.put, List.setIfInBounds_toArray, List.set_cons_zero, List.set_cons_succ]
              refine take_to (i := 27) (d := some 114) (v := (tagV d.t)) (l' := #[true, true, true, true, true, true, true, true, true, true, true, true, true, true, true, true, true, true, true, true, true, true, true, true, true, false, true, true, false, false, false, false, false, false, false, false, false, false, false, false, false, false, false, false, false, false, false, false]) rfl rfl (by kernel_rfl) (by kernel_rfl) (by kernel_rfl) (by kernel_rfl) (fun _ _ _ h => h) ?_ (by assumption) ?_
              · exact tag_load' (fun W h => h.2.2.1) (by rfl) rfl rfl
              try simp only [Act.put, List.setIfInBounds_toArray, List.set_cons_zero, List.set_cons_succ]
              refine one_to (i := 25) (l' := #[true, true, true, true, true, true, true, true, true, true, true, true, true, true, true, true, true, true, true, true, true, true, true, true, true, true, true, true, false, false, false, false, false, false, false, false, false, false, false, false, false, false, false, false, false, false, false, false]) rfl (by kernel_rfl) (by kernel_rfl) (fun K hK => ?_)
              go_simp
              refine (toldM_any _ d.mb d.B d.real d.sv L2 d.t HW.out.m HW.out.k HLB2.out).mono ?_
              rw [HZ2.out]
              rintro e w14 ⟨rfl, hb14⟩
              replace HW := Lib.hid (HW.out.go hb14)
              replace HTR := Lib.hid (HTR.out.go hb14)
              replace HKY := Lib.hid (HKY.out.go hb14)
              replace HTT := Lib.hid (And.intro (HTT.out.1.below' hb14) (HTT.out.2.below' hb14))
              clear hb14
              dsimp only
              refine hK.out _ _ (by first | exact ⟨HTT.out.1, HTT.out.2, HW.out.box, row4 HTR.out.yx, HW.out.r.cells.2.2.1, (HAT.out _ HW.out.bel).2.1⟩ | exact ⟨HTT.out.1.drew, HTT.out.2.drew, HW.out.drew.box, row4 (HTR.out.go (Below.refl _ _).drew).yx, HW.out.drew.r.cells.2.2.1, (HAT.out _ HW.out.drew.bel).2.1⟩) (fun hHeld => ?_)
              clear hK K
              try simp only [Act.put, List.setIfInBounds_toArray, List.set_cons_zero, List.set_cons_succ]
              refine one_to (i := 28) (l' := #[true, true, true, true, true, true, true, true, true, true, true, true, true, true, true, true, true, true, true, true, true, true, true, true, true, true, true, true, true, false, false, false, false, false, false, false, false, false, false, false, false, false, false, false, false, false, false, false]) rfl (by kernel_rfl) (by kernel_rfl) (fun K hK => ?_)
              go_simp
              refine (rtold_any d.rb d.real _ _ d.b0 L2 d.t _ HLB1.out HW.out.r).mono ?_
              rw [HZ2.out]
              rintro e w14 ⟨rfl, hb14⟩
              replace HW := Lib.hid (HW.out.go hb14)
              replace HTR := Lib.hid (HTR.out.go hb14)
              replace HKY := Lib.hid (HKY.out.go hb14)
              replace HTT := Lib.hid (And.intro (HTT.out.1.below' hb14) (HTT.out.2.below' hb14))
              clear hb14
              dsimp only
              refine hK.out _ _ (by first | exact ⟨HTT.out.1, HTT.out.2, HW.out.box, row4 HTR.out.yx, HW.out.r.cells.2.2.1, (HAT.out _ HW.out.bel).2.1⟩ | exact ⟨HTT.out.1.drew, HTT.out.2.drew, HW.out.drew.box, row4 (HTR.out.go (Below.refl _ _).drew).yx, HW.out.drew.r.cells.2.2.1, (HAT.out _ HW.out.drew.bel).2.1⟩) (fun hHeld => ?_)
              clear hK K
              try simp only [Act.put, List.setIfInBounds_toArray, List.set_cons_zero, List.set_cons_succ]
              refine take_to (i := 29) (d := some 116) (v := ?_) (l' := #[true, true, true, true, true, true, true, true, true, true, true, true, true, true, true, true, true, true, true, true, true, true, true, true, true, true, true, true, true, true, false, false, false, false, false, false, false, false, false, false, false, false, false, false, false, false, false, false]) rfl rfl (by kernel_rfl) (by kernel_rfl) (by kernel_rfl) (by kernel_rfl) (fun _ _ _ h => h) (Or.inl ⟨by rfl, ?_⟩) (by assumption) ?_; rotate_left; · (intro w' hSw; (try dsimp only at hSw); go_simp; (try with_reducible rfl))
              try simp only [Act.put, List.setIfInBounds_toArray, List.set_cons_zero, List.set_cons_succ]
              refine take_to (i := 30) (d := some 117) (v := ?_) (l' := #[true, true, true, true, true, true, true, true, true, true, true, true, true, true, true, true, true, true, true, true, true, true, true, true, true, true, true, true, true, true, true, false, false, false, false, false, false, false, false, false, false, false, false, false, false, false, false, false]) rfl rfl (by kernel_rfl) (by kernel_rfl) (by kernel_rfl) (by kernel_rfl) (fun _ _ _ h => h) (Or.inl ⟨by rfl, ?_⟩) (by assumption) ?_; rotate_left; · (intro w' hSw; (try dsimp only at hSw); go_simp; (try with_reducible rfl))
              try simp only [Act.put, List.setIfInBounds_toArray, List.set_cons_zero, List.set_cons_succ]
              refine take_to (i := 31) (d := some 118) (v := ?_) (l' := #[true, true, true, true, true, true, true, true, true, true, true, true, true, true, true, true, true, true, true, true, true, true, true, true, true, true, true, true, true, true, true, true, false, false, false, false, false, false, false, false, false, false, false, false, false, false, false, false]) rfl rfl (by kernel_rfl) (by kernel_rfl) (by kernel_rfl) (by kernel_rfl) (fun _ _ _ h => h) (Or.inl ⟨by rfl, ?_⟩) (by assumption) ?_; rotate_left; · (intro w' hSw; (try dsimp only at hSw); go_simp; (try with_reducible rfl))
              try simp only [Act.put, List.setIfInBounds_toArray, List.set_cons_zero, List.set_cons_succ]
              refine take_to (i := 32) (d := some 119) (v := ?_) (l' := #[true, true, true, true, true, true, true, true, true, true, true, true, true, true, true, true, true, true, true, true, true, true, true, true, true, true, true, true, true, true, true, true, true, false, false, false, false, false, false, false, false, false, false, false, false, false, false, false]) rfl rfl (by kernel_rfl) (by kernel_rfl) (by kernel_rfl) (by kernel_rfl) (fun _ _ _ h => h) (Or.inl ⟨by rfl, ?_⟩) (by assumption) ?_; rotate_left; · (intro w' hSw; (try dsimp only at hSw); go_simp; (try with_reducible rfl))
              try simp only [Act.put, List.setIfInBounds_toArray, List.set_cons_zero, List.set_cons_succ]
              refine take_to (i := 34) (d := some 121) (v := ?_) (l' := #[true, true, true, true, true, true, true, true, true, true, true, true, true, true, true, true, true, true, true, true, true, true, true, true, true, true, true, true, true, true, true, true, true, false, true, false, false, false, false, false, false, false, false, false, false, false, false, false]) rfl rfl (by kernel_rfl) (by kernel_rfl) (by kernel_rfl) (by kernel_rfl) (fun _ _ _ h => h) (Or.inl ⟨by rfl, ?_⟩) (by assumption) ?_; rotate_left; · (intro w' hSw; (try dsimp only at hSw); go_simp; (try with_reducible rfl))
              try simp only [Act.put, List.setIfInBounds_toArray, List.set_cons_zero, List.set_cons_succ]
              refine one_to (i := 33) (l' := #[true, true, true, true, true, true, true, true, true, true, true, true, true, true, true, true, true, true, true, true, true, true, true, true, true, true, true, true, true, true, true, true, true, true, true, false, false, false, false, false, false, false, false, false, false, false, false, false]) rfl (by kernel_rfl) (by kernel_rfl) (fun K hK => ?_)
              go_simp
              refine (realM_any _ d.mb d.B d.real d.sv HW.out.m).mono ?_
              rintro e w' ⟨rfl, rfl⟩
              dsimp only
              refine hK.out _ _ (by first | exact ⟨HTT.out.1, HTT.out.2, HW.out.box, row4 HTR.out.yx, HW.out.r.cells.2.2.1, (HAT.out _ HW.out.bel).2.1⟩ | exact ⟨HTT.out.1.drew, HTT.out.2.drew, HW.out.drew.box, row4 (HTR.out.go (Below.refl _ _).drew).yx, HW.out.drew.r.cells.2.2.1, (HAT.out _ HW.out.drew.bel).2.1⟩) (fun hHeld => ?_)
              clear hK K
              try simp only [Act.put, List.setIfInBounds_toArray, List.set_cons_zero, List.set_cons_succ]
              refine take_to (i := 35) (d := some 122) (v := ?_) (l' := #[true, true, true, true, true, true, true, true, true, true, true, true, true, true, true, true, true, true, true, true, true, true, true, true, true, true, true, true, true, true, true, true, true, true, true, true, false, false, false, false, false, false, false, false, false, false, false, false]) rfl rfl (by kernel_rfl) (by kernel_rfl) (by kernel_rfl) (by kernel_rfl) (fun _ _ _ h => h) (Or.inl ⟨by rfl, ?_⟩) (by assumption) ?_; rotate_left; · (intro w' hSw; (try dsimp only at hSw); go_simp; (try with_reducible rfl))
              try simp only [Act.put, List.setIfInBounds_toArray, List.set_cons_zero, List.set_cons_succ]
              refine take_to (i := 36) (d := some 123) (v := ?_) (l' := #[true, true, true, true, true, true, true, true, true, true, true, true, true, true, true, true, true, true, true, true, true, true, true, true, true, true, true, true, true, true, true, true, true, true, true, true, true, false, false, false, false, false, false, false, false, false, false, false]) rfl rfl (by kernel_rfl) (by kernel_rfl) (by kernel_rfl) (by kernel_rfl) (fun _ _ _ h => h) (Or.inl ⟨by rfl, ?_⟩) (by assumption) ?_; rotate_left; · (intro w' hSw; (try dsimp only at hSw); go_simp; (try with_reducible rfl))
              try simp only [Act.put, List.setIfInBounds_toArray, List.set_cons_zero, List.set_cons_succ]
              refine take_to (i := 37) (d := some 124) (v := ?_) (l' := #[true, true, true, true, true, true, true, true, true, true, true, true, true, true, true, true, true, true, true, true, true, true, true, true, true, true, true, true, true, true, true, true, true, true, true, true, true, true, false, false, false, false, false, false, false, false, false, false]) rfl rfl (by kernel_rfl) (by kernel_rfl) (by kernel_rfl) (by kernel_rfl) (fun _ _ _ h => h) (Or.inl ⟨by rfl, ?_⟩) (by assumption) ?_; rotate_left; · (intro w' hSw; (try dsimp only at hSw); go_simp; (try with_reducible rfl))
              try simp only [Act.put, List.setIfInBounds_toArray, List.set_cons_zero, List.set_cons_succ]
              refine take_to (i := 38) (d := some 125) (v := ?_) (l' := #[true, true, true, true, true, true, true, true, true, true, true, true, true, true, true, true, true, true, true, true, true, true, true, true, true, true, true, true, true, true, true, true, true, true, true, true, true, true, true, false, false, false, false, false, false, false, false, false]) rfl rfl (by kernel_rfl) (by kernel_rfl) (by kernel_rfl) (by kernel_rfl) (fun _ _ _ h => h) (Or.inl ⟨by rfl, ?_⟩) (by assumption) ?_; rotate_left; · (intro w' hSw; (try dsimp only at hSw); go_simp; (try with_reducible rfl))
              try simp only [Act.put, List.setIfInBounds_toArray, List.set_cons_zero, List.set_cons_succ]
              refine take_to (i := 39) (d := some 126) (v := ?_) (l' := #[true, true, true, true, true, true, true, true, true, true, true, true, true, true, true, true, true, true, true, true, true, true, true, true, true, true, true, true, true, true, true, true, true, true, true, true, true, true, true, true, false, false, false, false, false, false, false, false]) rfl rfl (by kernel_rfl) (by kernel_rfl) (by kernel_rfl) (by kernel_rfl) (fun _ _ _ h => h) (Or.inl ⟨by rfl, ?_⟩) (by assumption) ?_; rotate_left; · (intro w' hSw; (try dsimp only at hSw); go_simp; (try with_reducible rfl))
              try simp only [Act.put, List.setIfInBounds_toArray, List.set_cons_zero, List.set_cons_succ]
              refine take_to (i := 40) (d := some 127) (v := ?_) (l' := #[true, true, true, true, true, true, true, true, true, true, true, true, true, true, true, true, true, true, true, true, true, true, true, true, true, true, true, true, true, true, true, true, true, true, true, true, true, true, true, true, true, false, false, false, false, false, false, false]) rfl rfl (by kernel_rfl) (by kernel_rfl) (by kernel_rfl) (by kernel_rfl) (fun _ _ _ h => h) (Or.inl ⟨by rfl, ?_⟩) (by assumption) ?_; rotate_left; · (intro w' hSw; (try dsimp only at hSw); go_simp; (try with_reducible rfl))
              try simp only [Act.put, List.setIfInBounds_toArray, List.set_cons_zero, List.set_cons_succ]
              refine take_to (i := 41) (d := some 128) (v := ?_) (l' := #[true, true, true, true, true, true, true, true, true, true, true, true, true, true, true, true, true, true, true, true, true, true, true, true, true, true, true, true, true, true, true, true, true, true, true, true, true, true, true, true, true, true, false, false, false, false, false, false]) rfl rfl (by kernel_rfl) (by kernel_rfl) (by kernel_rfl) (by kernel_rfl) (fun _ _ _ h => h) (Or.inl ⟨by rfl, ?_⟩) (by assumption) ?_; rotate_left; · (intro w' hSw; (try dsimp only at hSw); go_simp; (try with_reducible rfl))
              try simp only [Act.put, List.setIfInBounds_toArray, List.set_cons_zero, List.set_cons_succ]
              refine take_to (i := 42) (d := some 129) (v := ?_) (l' := #[true, true, true, true, true, true, true, true, true, true, true, true, true, true, true, true, true, true, true, true, true, true, true, true, true, true, true, true, true, true, true, true, true, true, true, true, true, true, true, true, true, true, true, false, false, false, false, false]) rfl rfl (by kernel_rfl) (by kernel_rfl) (by kernel_rfl) (by kernel_rfl) (fun _ _ _ h => h) (Or.inl ⟨by rfl, ?_⟩) (by assumption) ?_; rotate_left; · (intro w' hSw; (try dsimp only at hSw); go_simp; (try with_reducible rfl))
              try simp only [Act.put, List.setIfInBounds_toArray, List.set_cons_zero, List.set_cons_succ]
              refine take_to (i := 43) (d := some 130) (v := ?_) (l' := #[true, true, true, true, true, true, true, true, true, true, true, true, true, true, true, true, true, true, true, true, true, true, true, true, true, true, true, true, true, true, true, true, true, true, true, true, true, true, true, true, true, true, true, true, false, false, false, false]) rfl rfl (by kernel_rfl) (by kernel_rfl) (by kernel_rfl) (by kernel_rfl) (fun _ _ _ h => h) (Or.inl ⟨by rfl, ?_⟩) (by assumption) ?_; rotate_left; · (intro w' hSw; (try dsimp only at hSw); go_simp; (try with_reducible rfl))
              try simp only [Act.put, List.setIfInBounds_toArray, List.set_cons_zero, List.set_cons_succ]
              refine take_to (i := 44) (d := some 131) (v := ?_) (l' := #[true, true, true, true, true, true, true, true, true, true, true, true, true, true, true, true, true, true, true, true, true, true, true, true, true, true, true, true, true, true, true, true, true, true, true, true, true, true, true, true, true, true, true, true, true, false, false, false]) rfl rfl (by kernel_rfl) (by kernel_rfl) (by kernel_rfl) (by kernel_rfl) (fun _ _ _ h => h) (Or.inl ⟨by rfl, ?_⟩) (by assumption) ?_; rotate_left; · (intro w' hSw; (try dsimp only at hSw); go_simp; (try with_reducible rfl))
              try simp only [Act.put, List.setIfInBounds_toArray, List.set_cons_zero, List.set_cons_succ]
              refine one_to (i := 45) (l' := #[true, true, true, true, true, true, true, true, true, true, true, true, true, true, true, true, true, true, true, true, true, true, true, true, true, true, true, true, true, true, true, true, true, true, true, true, true, true, true, true, true, true, true, true, true, true, false, false]) rfl (by kernel_rfl) (by kernel_rfl) (fun K hK => ?_)
              go_simp
              refine (LentBytes.kept _ (some ⟨gk, 0, none⟩) y.kp y.kn (y.kn + 12) y.kc (fun q => ub (y.key q)) _ HKN.out (Nat.le_refl _) ((HY.out.key.below HW.out.bel).mono HW.out.bel.size) HKY.out.reads).mono ?_
              rintro e w14 ⟨rfl, hb14⟩
              replace HW := Lib.hid (HW.out.go hb14)
              replace HTR := Lib.hid (HTR.out.go hb14)
              replace HKY := Lib.hid (HKY.out.go hb14)
              replace HTT := Lib.hid (And.intro (HTT.out.1.below' hb14) (HTT.out.2.below' hb14))
              clear hb14
              dsimp only
              refine hK.out _ _ (by first | exact ⟨HTT.out.1, HTT.out.2, HW.out.box, row4 HTR.out.yx, HW.out.r.cells.2.2.1, (HAT.out _ HW.out.bel).2.1⟩ | exact ⟨HTT.out.1.drew, HTT.out.2.drew, HW.out.drew.box, row4 (HTR.out.go (Below.refl _ _).drew).yx, HW.out.drew.r.cells.2.2.1, (HAT.out _ HW.out.drew.bel).2.1⟩) (fun hHeld => ?_)
              clear hK K
              try simp only [Act.put, List.setIfInBounds_toArray, List.set_cons_zero, List.set_cons_succ]
              refine take_to (i := 46) (d := some 133) (v := ?_) (l' := #[true, true, true, true, true, true, true, true, true, true, true, true, true, true, true, true, true, true, true, true, true, true, true, true, true, true, true, true, true, true, true, true, true, true, true, true, true, true, true, true, true, true, true, true, true, true, true, false]) rfl rfl (by kernel_rfl) (by kernel_rfl) (by kernel_rfl) (by kernel_rfl) (fun _ _ _ h => h) (Or.inl ⟨by rfl, ?_⟩) (by assumption) ?_; rotate_left; · (intro w' hSw; (try dsimp only at hSw); go_simp; (try with_reducible rfl))
              try simp only [Act.put, List.setIfInBounds_toArray, List.set_cons_zero, List.set_cons_succ]
              refine take_to (i := 47) (d := some 134) (v := ?_) (l' := #[true, true, true, true, true, true, true, true, true, true, true, true, true, true, true, true, true, true, true, true, true, true, true, true, true, true, true, true, true, true, true, true, true, true, true, true, true, true, true, true, true, true, true, true, true, true, true, true]) rfl rfl (by kernel_rfl) (by kernel_rfl) (by kernel_rfl) (by kernel_rfl) (fun _ _ _ h => h) (Or.inl ⟨by rfl, ?_⟩) (by assumption) ?_; rotate_left; · (intro w' hSw; (try dsimp only at hSw); go_simp; (try with_reducible rfl))
              try simp only [Act.put, List.setIfInBounds_toArray, List.set_cons_zero, List.set_cons_succ]
              refine wpAnyH_done (by kernel_rfl) ?_ _
              refine NoPanic.normal ?_
              clear hHeld
              obtain ⟨y0, y1, y2, y3⟩ := row4 HTR.out.yx
              go_wp2_with fail
              clear y0 y1 y2 y3
              refine (LentBytes.over b1 _ y.kn _ _ (owns_first HKY.out (n := y.kn) (by omega)) (by have := HKN.out; omega)).mono ?_
              rintro e w15 ⟨rfl, hg15⟩
              have hgk : some gk = some gk := rfl
              replace HW := Lib.hid (HW.out.ch (Ch.gr (x := gk) hg15) (fun k hk e => by have e : k = gk := e; have := HTR.out.ap; have := HB0.out; omega) (fun q hq e => owns_apart HW.out.r.own HKY.out (by decide) gk rfl (by rw [hq, show q = gk from e])))
              replace HTR := Lib.hid (HTR.out.key (gk := gk) hg15)
              clear hg15 hgk HKY HTT he hgd
              dsimp only
              refine list_goT (by assumption) ?_
              have HMC := Lib.hid (show ∀ W, Below w.heap.size w W → W.cell? ⟨mk_lays_ren.g 1, 0, none⟩ = some (.int .i64 mx) from fun W hW => (hW.cell (p := ⟨mk_lays_ren.g 1, 0, none⟩) (block_lt_of_cell HMX.out)).trans HMX.out)
              go_wp2
              go_loopw [17] (fun qv wr => ∃ q : Nat, q ≤ y.m ∧ qv = .int .i64 (q : Int) ∧ TW4 d w (.slice pa n ca) L2 L2 wr ∧ TR4 b1 b2 b1 gk y (.slice pv y.m cv) y.m q G wr) (fun qv _ => y.m - (intOf qv).toNat)
              case atStart => exact ⟨0, Nat.zero_le _, rfl, HW.out, HTR.out⟩
              case round =>
                obtain ⟨q, hq, rfl, hw, htr⟩ := hrel
                clear HW HTR
                have HW := Lib.hid hw
                have HTR := Lib.hid htr
                clear hw htr
                have hm14 : y.m ≤ 400 := by unfold Ask.tot at hyt; omega
                obtain ⟨c0, c1, c2, c3⟩ := HAT.out _ HW.out.bel
                by_cases hlq : q < y.m
                · rcases HY.out.rows.rows with h0 | ⟨rw, ro, hp, hrw, hrc⟩
                  · omega
                  rcases owns_reads' HTR.out.own with h0 | ⟨ob, oo, rfl, hob, hoc⟩
                  · omega
                  have HCC := Lib.hid (show ∀ W, TW4 d w (.slice pa n ca) L2 L2 W → TR4 b1 b2 b1 gk y (.slice (some ⟨ob, oo, none⟩) y.m cv) y.m q G W → W.cell? ⟨b1, 2, none⟩ = some (.slice (some ⟨ob, oo, none⟩) y.m cv) ∧ W.cell? ⟨ob, oo + q, none⟩ = some (.slice (some ⟨G q, 0, none⟩) (y.ln q) (y.ln q + 12)) ∧ W.cell? ⟨b, off + i * 4 + 2, none⟩ = some (.slice (some ⟨rw, ro, none⟩) y.m y.c) ∧ W.cell? ⟨rw, ro + q, none⟩ = some (.slice (y.P q) (y.ln q) (y.C q)) from fun W hW hT => by
                    refine ⟨(row4 hT.yx).2.2.1, ?_, by rw [← hp]; exact (HAT.out W hW.bel).2.2.1, ?_⟩
                    · rcases owns_reads' hT.own with h0 | ⟨b', o', he, _, hc'⟩
                      · omega
                      · cases he
                        exact hc' q hlq
                    · rcases HY.out.rows.rows.below hW.bel with h0 | ⟨b', o', he, _, hc'⟩
                      · omega
                      · rw [hp] at he
                        cases he
                        exact hc' q hlq)
                  have HLK := Lib.hid (show y.ln q ≤ 4294967295 from by have := pos_ge y.ln y.m q hlq; unfold Ask.tot at hyt; omega)
                  have HLM := Lib.hid (show y.ln q ≤ 4294967000 from by have := pos_ge y.ln y.m q hlq; unfold Ask.tot at hyt; omega)
                  obtain ⟨z3, hz3⟩ : ∃ z, mkS (y.f q) (y.ln q) = z := ⟨_, rfl⟩
                  have HZ3 := Lib.hid hz3
                  have hzz3 : (z3 != z3) = false := by simp
                  clear hrc hp hz3 hoc
                  go_upto_region 23 with (fail)
                  clear c0 c1 c2 c3
                  refine wp_region_noPanic ?_
                  refine wp_region_start (n := 36) (l := #[false, false, false, false, false, false, false, false, false, false, false, false, false, false, false, false, false, false, false, false, false, false, false, false, false, false, false, false, false, false, false, false, false, false, false, false]) (S := (fun W => W.cell? ⟨b1, 2, none⟩ = some (.slice (some ⟨ob, oo, none⟩) y.m cv) ∧ W.cell? ⟨ob, oo + q, none⟩ = some (.slice (some ⟨G q, 0, none⟩) (y.ln q) (y.ln q + 12)) ∧ W.cell? ⟨b, off + i * 4 + 2, none⟩ = some (.slice (some ⟨rw, ro, none⟩) y.m y.c) ∧ W.cell? ⟨rw, ro + q, none⟩ = some (.slice (y.P q) (y.ln q) (y.C q)))) (by kernel_rfl) rfl (by kernel_rfl) (by first | exact HCC.out _ HW.out HTR.out | exact HCC.out _ HW.out.drew (HTR.out.go (Below.refl _ _).drew)) (fun hHeld => ?_)
                  replace HW := Lib.hid HW.out.drew
                  replace HTR := Lib.hid (HTR.out.go (Below.refl _ _).drew)
                  generalize World.drew _ = V2 at hHeld HW HTR ⊢
                  refine take_to (i := 0) (d := some 148) (v := ?_) (l' := #[true, false, false, false, false, false, false, false, false, false, false, false, false, false, false, false, false, false, false, false, false, false, false, false, false, false, false, false, false, false, false, false, false, false, false, false]) rfl rfl (by kernel_rfl) (by kernel_rfl) (by kernel_rfl) (by kernel_rfl) (fun _ _ _ h => h) (Or.inl ⟨by rfl, ?_⟩) (by assumption) ?_; rotate_left; · (intro w' hSw; (try dsimp only at hSw); go_simp; (try with_reducible rfl))
                  try simp only [Act.put, List.setIfInBounds_toArray, List.set_cons_zero, List.set_cons_succ]
                  refine take_to (i := 1) (d := some 149) (v := ?_) (l' := #[true, true, false, false, false, false, false, false, false, false, false, false, false, false, false, false, false, false, false, false, false, false, false, false, false, false, false, false, false, false, false, false, false, false, false, false]) rfl rfl (by kernel_rfl) (by kernel_rfl) (by kernel_rfl) (by kernel_rfl) (fun _ _ _ h => h) (Or.inl ⟨by rfl, ?_⟩) (by assumption) ?_; rotate_left; · (intro w' hSw; (try dsimp only at hSw); go_simp; (try with_reducible rfl))
                  try simp only [Act.put, List.setIfInBounds_toArray, List.set_cons_zero, List.set_cons_succ]
                  refine take_to (i := 2) (d := some 150) (v := ?_) (l' := #[true, true, true, false, false, false, false, false, false, false, false, false, false, false, false, false, false, false, false, false, false, false, false, false, false, false, false, false, false, false, false, false, false, false, false, false]) rfl rfl (by kernel_rfl) (by kernel_rfl) (by kernel_rfl) (by kernel_rfl) (fun _ _ _ h => h) (Or.inl ⟨by rfl, ?_⟩) (by assumption) ?_; rotate_left; · (intro w' hSw; (try dsimp only at hSw); go_simp; (try with_reducible rfl))
                  try simp only [Act.put, List.setIfInBounds_toArray, List.set_cons_zero, List.set_cons_succ]
                  refine take_to (i := 3) (d := some 151) (v := ?_) (l' := #[true, true, true, true, false, false, false, false, false, false, false, false, false, false, false, false, false, false, false, false, false, false, false, false, false, false, false, false, false, false, false, false, false, false, false, false]) rfl rfl (by kernel_rfl) (by kernel_rfl) (by kernel_rfl) (by kernel_rfl) (fun _ _ _ h => h) (Or.inl ⟨by rfl, ?_⟩) (by assumption) ?_; rotate_left; · (intro w' hSw; (try dsimp only at hSw); go_simp; (try with_reducible rfl))
                  try simp only [Act.put, List.setIfInBounds_toArray, List.set_cons_zero, List.set_cons_succ]
                  refine take_to (i := 4) (d := some 152) (v := ?_) (l' := #[true, true, true, true, true, false, false, false, false, false, false, false, false, false, false, false, false, false, false, false, false, false, false, false, false, false, false, false, false, false, false, false, false, false, false, false]) rfl rfl (by kernel_rfl) (by kernel_rfl) (by kernel_rfl) (by kernel_rfl) (fun _ _ _ h => h) (Or.inl ⟨by rfl, ?_⟩) (by assumption) ?_; rotate_left; · (intro w' hSw; (try dsimp only at hSw); go_simp; (try with_reducible rfl))
                  try simp only [Act.put, List.setIfInBounds_toArray, List.set_cons_zero, List.set_cons_succ]
                  refine take_to (i := 5) (d := some 153) (v := ?_) (l' := #[true, true, true, true, true, true, false, false, false, false, false, false, false, false, false, false, false, false, false, false, false, false, false, false, false, false, false, false, false, false, false, false, false, false, false, false]) rfl rfl (by kernel_rfl) (by kernel_rfl) (by kernel_rfl) (by kernel_rfl) (fun _ _ _ h => h) (Or.inl ⟨by rfl, ?_⟩) (by assumption) ?_; rotate_left; · (intro w' hSw; (try dsimp only at hSw); go_simp; (try with_reducible rfl))
                  try simp only [Act.put, List.setIfInBounds_toArray, List.set_cons_zero, List.set_cons_succ]
                  refine take_to (i := 6) (d := some 154) (v := ?_) (l' := #[true, true, true, true, true, true, true, false, false, false, false, false, false, false, false, false, false, false, false, false, false, false, false, false, false, false, false, false, false, false, false, false, false, false, false, false]) rfl rfl (by kernel_rfl) (by kernel_rfl) (by kernel_rfl) (by kernel_rfl) (fun _ _ _ h => h) (Or.inl ⟨by rfl, ?_⟩) (by assumption) ?_; rotate_left; · (intro w' hSw; (try dsimp only at hSw); go_simp; (try with_reducible rfl))
                  try simp only [Act.put, List.setIfInBounds_toArray, List.set_cons_zero, List.set_cons_succ]
                  refine take_to (i := 7) (d := some 155) (v := ?_) (l' := #[true, true, true, true, true, true, true, true, false, false, false, false, false, false, false, false, false, false, false, false, false, false, false, false, false, false, false, false, false, false, false, false, false, false, false, false]) rfl rfl (by kernel_rfl) (by kernel_rfl) (by kernel_rfl) (by kernel_rfl) (fun _ _ _ h => h) (Or.inl ⟨by rfl, ?_⟩) (by assumption) ?_; rotate_left; · (intro w' hSw; (try dsimp only at hSw); go_simp; (try with_reducible rfl))
                  try simp only [Act.put, List.setIfInBounds_toArray, List.set_cons_zero, List.set_cons_succ]
                  refine take_to (i := 8) (d := some 156) (v := ?_) (l' := #[true, true, true, true, true, true, true, true, true, false, false, false, false, false, false, false, false, false, false, false, false, false, false, false, false, false, false, false, false, false, false, false, false, false, false, false]) rfl rfl (by kernel_rfl) (by kernel_rfl) (by kernel_rfl) (by kernel_rfl) (fun _ _ _ h => h) (Or.inl ⟨by rfl, ?_⟩) (by assumption) ?_; rotate_left; · (intro w' hSw; (try dsimp only at hSw); go_simp; (try with_reducible rfl))
                  try simp only [Act.put, List.setIfInBounds_toArray, List.set_cons_zero, List.set_cons_succ]
                  refine take_to (i := 9) (d := some 157) (v := ?_) (l' := #[true, true, true, true, true, true, true, true, true, true, false, false, false, false, false, false, false, false, false, false, false, false, false, false, false, false, false, false, false, false, false, false, false, false, false, false]) rfl rfl (by kernel_rfl) (by kernel_rfl) (by kernel_rfl) (by kernel_rfl) (fun _ _ _ h => h) (Or.inl ⟨by rfl, ?_⟩) (by assumption) ?_; rotate_left; · (intro w' hSw; (try dsimp only at hSw); go_simp; (try with_reducible rfl))
                  try simp only [Act.put, List.setIfInBounds_toArray, List.set_cons_zero, List.set_cons_succ]
                  refine take_to (i := 10) (d := some 158) (v := ?_) (l' := #[true, true, true, true, true, true, true, true, true, true, true, false, false, false, false, false, false, false, false, false, false, false, false, false, false, false, false, false, false, false, false, false, false, false, false, false]) rfl rfl (by kernel_rfl) (by kernel_rfl) (by kernel_rfl) (by kernel_rfl) (fun _ _ _ h => h) (Or.inl ⟨by rfl, ?_⟩) (by assumption) ?_; rotate_left; · (intro w' hSw; (try dsimp only at hSw); go_simp; (try with_reducible rfl))
                  try simp only [Act.put, List.setIfInBounds_toArray, List.set_cons_zero, List.set_cons_succ]
                  refine take_to (i := 11) (d := some 159) (v := ?_) (l' := #[true, true, true, true, true, true, true, true, true, true, true, true, false, false, false, false, false, false, false, false, false, false, false, false, false, false, false, false, false, false, false, false, false, false, false, false]) rfl rfl (by kernel_rfl) (by kernel_rfl) (by kernel_rfl) (by kernel_rfl) (fun _ _ _ h => h) (Or.inl ⟨by rfl, ?_⟩) (by assumption) ?_; rotate_left; · (intro w' hSw; (try dsimp only at hSw); go_simp; (try with_reducible rfl))
                  try simp only [Act.put, List.setIfInBounds_toArray, List.set_cons_zero, List.set_cons_succ]
                  refine take_to (i := 12) (d := some 160) (v := ?_) (l' := #[true, true, true, true, true, true, true, true, true, true, true, true, true, false, false, false, false, false, false, false, false, false, false, false, false, false, false, false, false, false, false, false, false, false, false, false]) rfl rfl (by kernel_rfl) (by kernel_rfl) (by kernel_rfl) (by kernel_rfl) (fun _ _ _ h => h) (Or.inl ⟨by rfl, ?_⟩) (by assumption) ?_; rotate_left; · (intro w' hSw; (try dsimp only at hSw); go_simp; (try with_reducible rfl))
                  try simp only [Act.put, List.setIfInBounds_toArray, List.set_cons_zero, List.set_cons_succ]
                  refine one_to (i := 13) (l' := #[true, true, true, true, true, true, true, true, true, true, true, true, true, true, false, false, false, false, false, false, false, false, false, false, false, false, false, false, false, false, false, false, false, false, false, false]) rfl (by kernel_rfl) (by kernel_rfl) (fun K hK => ?_)
                  go_simp
                  refine (LentBytes.kept _ (some ⟨G q, 0, none⟩) (y.P q) (y.ln q) (y.ln q + 12) (y.C q) (fun z => ub (y.f q z)) _ HLK.out (Nat.le_refl _) (((HY.out.rows.row q hlq).below HW.out.bel).mono HW.out.bel.size) (HTR.out.reads q (Nat.le_refl _) hlq)).mono ?_
                  rintro e w14 ⟨rfl, hb14⟩
                  replace HW := Lib.hid (HW.out.go hb14)
                  replace HTR := Lib.hid (HTR.out.go hb14)
                  clear hb14
                  dsimp only
                  refine hK.out _ _ (by first | exact HCC.out _ HW.out HTR.out | exact HCC.out _ HW.out.drew (HTR.out.go (Below.refl _ _).drew)) (fun hHeld => ?_)
                  clear hK K
                  try simp only [Act.put, List.setIfInBounds_toArray, List.set_cons_zero, List.set_cons_succ]
                  refine take_to (i := 14) (d := some 162) (v := ?_) (l' := #[true, true, true, true, true, true, true, true, true, true, true, true, true, true, true, false, false, false, false, false, false, false, false, false, false, false, false, false, false, false, false, false, false, false, false, false]) rfl rfl (by kernel_rfl) (by kernel_rfl) (by kernel_rfl) (by kernel_rfl) (fun _ _ _ h => h) (Or.inl ⟨by rfl, ?_⟩) (by assumption) ?_; rotate_left; · (intro w' hSw; (try dsimp only at hSw); go_simp; (try with_reducible rfl))
                  try simp only [Act.put, List.setIfInBounds_toArray, List.set_cons_zero, List.set_cons_succ]
                  refine take_to (i := 15) (d := some 163) (v := ?_) (l' := #[true, true, true, true, true, true, true, true, true, true, true, true, true, true, true, true, false, false, false, false, false, false, false, false, false, false, false, false, false, false, false, false, false, false, false, false]) rfl rfl (by kernel_rfl) (by kernel_rfl) (by kernel_rfl) (by kernel_rfl) (fun _ _ _ h => h) (Or.inl ⟨by rfl, ?_⟩) (by assumption) ?_; rotate_left; · (intro w' hSw; (try dsimp only at hSw); go_simp; (try with_reducible rfl))
                  try simp only [Act.put, List.setIfInBounds_toArray, List.set_cons_zero, List.set_cons_succ]
                  refine take_to (i := 16) (d := some 164) (v := ?_) (l' := #[true, true, true, true, true, true, true, true, true, true, true, true, true, true, true, true, true, false, false, false, false, false, false, false, false, false, false, false, false, false, false, false, false, false, false, false]) rfl rfl (by kernel_rfl) (by kernel_rfl) (by kernel_rfl) (by kernel_rfl) (fun _ _ _ h => h) (Or.inl ⟨by rfl, ?_⟩) (by assumption) ?_; rotate_left; · (intro w' hSw; (try dsimp only at hSw); go_simp; (try with_reducible rfl))
                  try simp only [Act.put, List.setIfInBounds_toArray, List.set_cons_zero, List.set_cons_succ]
                  refine take_to (i := 17) (d := some 165) (v := ?_) (l' := #[true, true, true, true, true, true, true, true, true, true, true, true, true, true, true, true, true, true, false, false, false, false, false, false, false, false, false, false, false, false, false, false, false, false, false, false]) rfl rfl (by kernel_rfl) (by kernel_rfl) (by kernel_rfl) (by kernel_rfl) (fun _ _ _ h => h) (Or.inl ⟨by rfl, ?_⟩) (by assumption) ?_; rotate_left; · (intro w' hSw; (try dsimp only at hSw); go_simp; (try with_reducible rfl))
                  try simp only [Act.put, List.setIfInBounds_toArray, List.set_cons_zero, List.set_cons_succ]
                  refine take_to (i := 18) (d := some 166) (v := ?_) (l' := #[true, true, true, true, true, true, true, true, true, true, true, true, true, true, true, true, true, true, true, false, false, false, false, false, false, false, false, false, false, false, false, false, false, false, false, false]) rfl rfl (by kernel_rfl) (by kernel_rfl) (by kernel_rfl) (by kernel_rfl) (fun _ _ _ h => h) (Or.inl ⟨by rfl, ?_⟩) (by assumption) ?_; rotate_left; · (intro w' hSw; (try dsimp only at hSw); go_simp; (try with_reducible rfl))
                  try simp only [Act.put, List.setIfInBounds_toArray, List.set_cons_zero, List.set_cons_succ]
                  refine take_to (i := 19) (d := some 167) (v := ?_) (l' := #[true, true, true, true, true, true, true, true, true, true, true, true, true, true, true, true, true, true, true, true, false, false, false, false, false, false, false, false, false, false, false, false, false, false, false, false]) rfl rfl (by kernel_rfl) (by kernel_rfl) (by kernel_rfl) (by kernel_rfl) (fun _ _ _ h => h) (Or.inl ⟨by rfl, ?_⟩) (by assumption) ?_; rotate_left; · (intro w' hSw; (try dsimp only at hSw); go_simp; (try with_reducible rfl))
                  try simp only [Act.put, List.setIfInBounds_toArray, List.set_cons_zero, List.set_cons_succ]
                  refine take_to (i := 20) (d := some 168) (v := ?_) (l' := #[true, true, true, true, true, true, true, true, true, true, true, true, true, true, true, true, true, true, true, true, true, false, false, false, false, false, false, false, false, false, false, false, false, false, false, false]) rfl rfl (by kernel_rfl) (by kernel_rfl) (by kernel_rfl) (by kernel_rfl) (fun _ _ _ h => h) (Or.inl ⟨by rfl, ?_⟩) (by assumption) ?_; rotate_left; · (intro w' hSw; (try dsimp only at hSw); go_simp; (try with_reducible rfl))
                  try simp only [Act.put, List.setIfInBounds_toArray, List.set_cons_zero, List.set_cons_succ]
                  refine take_to (i := 21) (d := some 169) (v := ?_) (l' := #[true, true, true, true, true, true, true, true, true, true, true, true, true, true, true, true, true, true, true, true, true, true, false, false, false, false, false, false, false, false, false, false, false, false, false, false]) rfl rfl (by kernel_rfl) (by kernel_rfl) (by kernel_rfl) (by kernel_rfl) (fun _ _ _ h => h) (Or.inl ⟨by rfl, ?_⟩) (by assumption) ?_; rotate_left; · (intro w' hSw; (try dsimp only at hSw); go_simp; (try with_reducible rfl))
                  try simp only [Act.put, List.setIfInBounds_toArray, List.set_cons_zero, List.set_cons_succ]
                  refine take_to (i := 22) (d := some 170) (v := ?_) (l' := #[true, true, true, true, true, true, true, true, true, true, true, true, true, true, true, true, true, true, true, true, true, true, true, false, false, false, false, false, false, false, false, false, false, false, false, false]) rfl rfl (by kernel_rfl) (by kernel_rfl) (by kernel_rfl) (by kernel_rfl) (fun _ _ _ h => h) (Or.inl ⟨by rfl, ?_⟩) (by assumption) ?_; rotate_left; · (intro w' hSw; (try dsimp only at hSw); go_simp; (try with_reducible rfl))
                  try simp only [Act.put, List.setIfInBounds_toArray, List.set_cons_zero, List.set_cons_succ]
                  refine take_to (i := 23) (d := some 171) (v := ?_) (l' := #[true, true, true, true, true, true, true, true, true, true, true, true, true, true, true, true, true, true, true, true, true, true, true, true, false, false, false, false, false, false, false, false, false, false, false, false]) rfl rfl (by kernel_rfl) (by kernel_rfl) (by kernel_rfl) (by kernel_rfl) (fun _ _ _ h => h) (Or.inl ⟨by rfl, ?_⟩) (by assumption) ?_; rotate_left; · (intro w' hSw; (try dsimp only at hSw); go_simp; (try with_reducible rfl))
                  try simp only [Act.put, List.setIfInBounds_toArray, List.set_cons_zero, List.set_cons_succ]
                  refine take_to (i := 25) (d := some 173) (v := ?_) (l' := #[true, true, true, true, true, true, true, true, true, true, true, true, true, true, true, true, true, true, true, true, true, true, true, true, false, true, false, false, false, false, false, false, false, false, false, false]) rfl rfl (by kernel_rfl) (by kernel_rfl) (by kernel_rfl) (by kernel_rfl) (fun _ _ _ h => h) (Or.inl ⟨by rfl, ?_⟩) (by assumption) ?_; rotate_left; · (intro w' hSw; (try dsimp only at hSw); go_simp; (try with_reducible rfl))
                  try simp only [Act.put, List.setIfInBounds_toArray, List.set_cons_zero, List.set_cons_succ]
                  refine take_to (i := 26) (d := some 174) (v := ?_) (l' := #[true, true, true, true, true, true, true, true, true, true, true, true, true, true, true, true, true, true, true, true, true, true, true, true, false, true, true, false, false, false, false, false, false, false, false, false]) rfl rfl (by kernel_rfl) (by kernel_rfl) (by kernel_rfl) (by kernel_rfl) (fun _ _ _ h => h) (Or.inl ⟨by rfl, ?_⟩) (by assumption) ?_; rotate_left; · (intro w' hSw; (try dsimp only at hSw); go_simp; (try with_reducible rfl))
                  try simp only [Act.put, List.setIfInBounds_toArray, List.set_cons_zero, List.set_cons_succ]
                  refine take_to (i := 27) (d := some 175) (v := ?_) (l' := #[true, true, true, true, true, true, true, true, true, true, true, true, true, true, true, true, true, true, true, true, true, true, true, true, false, true, true, true, false, false, false, false, false, false, false, false]) rfl rfl (by kernel_rfl) (by kernel_rfl) (by kernel_rfl) (by kernel_rfl) (fun _ _ _ h => h) (Or.inl ⟨by rfl, ?_⟩) (by assumption) ?_; rotate_left; · (intro w' hSw; (try dsimp only at hSw); go_simp; (try with_reducible rfl))
                  try simp only [Act.put, List.setIfInBounds_toArray, List.set_cons_zero, List.set_cons_succ]
                  refine take_to (i := 28) (d := some 176) (v := ?_) (l' := #[true, true, true, true, true, true, true, true, true, true, true, true, true, true, true, true, true, true, true, true, true, true, true, true, false, true, true, true, true, false, false, false, false, false, false, false]) rfl rfl (by kernel_rfl) (by kernel_rfl) (by kernel_rfl) (by kernel_rfl) (fun _ _ _ h => h) (Or.inl ⟨by rfl, ?_⟩) (by assumption) ?_; rotate_left; · (intro w' hSw; (try dsimp only at hSw); go_simp; (try with_reducible rfl))
                  try simp only [Act.put, List.setIfInBounds_toArray, List.set_cons_zero, List.set_cons_succ]
                  refine take_to (i := 29) (d := some 177) (v := ?_) (l' := #[true, true, true, true, true, true, true, true, true, true, true, true, true, true, true, true, true, true, true, true, true, true, true, true, false, true, true, true, true, true, false, false, false, false, false, false]) rfl rfl (by kernel_rfl) (by kernel_rfl) (by kernel_rfl) (by kernel_rfl) (fun _ _ _ h => h) (Or.inl ⟨by rfl, ?_⟩) (by assumption) ?_; rotate_left; · (intro w' hSw; (try dsimp only at hSw); go_simp; (try with_reducible rfl))
                  try simp only [Act.put, List.setIfInBounds_toArray, List.set_cons_zero, List.set_cons_succ]
                  refine take_to (i := 30) (d := some 178) (v := ?_) (l' := #[true, true, true, true, true, true, true, true, true, true, true, true, true, true, true, true, true, true, true, true, true, true, true, true, false, true, true, true, true, true, true, false, false, false, false, false]) rfl rfl (by kernel_rfl) (by kernel_rfl) (by kernel_rfl) (by kernel_rfl) (fun _ _ _ h => h) (Or.inl ⟨by rfl, ?_⟩) (by assumption) ?_; rotate_left; · (intro w' hSw; (try dsimp only at hSw); go_simp; (try with_reducible rfl))
                  try simp only [Act.put, List.setIfInBounds_toArray, List.set_cons_zero, List.set_cons_succ]
                  refine take_to (i := 31) (d := some 179) (v := ?_) (l' := #[true, true, true, true, true, true, true, true, true, true, true, true, true, true, true, true, true, true, true, true, true, true, true, true, false, true, true, true, true, true, true, true, false, false, false, false]) rfl rfl (by kernel_rfl) (by kernel_rfl) (by kernel_rfl) (by kernel_rfl) (fun _ _ _ h => h) (Or.inl ⟨by rfl, ?_⟩) (by assumption) ?_; rotate_left; · (intro w' hSw; (try dsimp only at hSw); go_simp; (try with_reducible rfl))
                  try simp only [Act.put, List.setIfInBounds_toArray, List.set_cons_zero, List.set_cons_succ]
                  refine take_to (i := 32) (d := some 180) (v := ?_) (l' := #[true, true, true, true, true, true, true, true, true, true, true, true, true, true, true, true, true, true, true, true, true, true, true, true, false, true, true, true, true, true, true, true, true, false, false, false]) rfl rfl (by kernel_rfl) (by kernel_rfl) (by kernel_rfl) (by kernel_rfl) (fun _ _ _ h => h) (Or.inl ⟨by rfl, ?_⟩) (by assumption) ?_; rotate_left; · (intro w' hSw; (try dsimp only at hSw); go_simp; (try with_reducible rfl))
                  try simp only [Act.put, List.setIfInBounds_toArray, List.set_cons_zero, List.set_cons_succ]
                  refine one_to (i := 24) (l' := #[true, true, true, true, true, true, true, true, true, true, true, true, true, true, true, true, true, true, true, true, true, true, true, true, true, true, true, true, true, true, true, true, true, false, false, false]) rfl (by kernel_rfl) (by kernel_rfl) (fun K hK => ?_)
                  go_simp
                  refine (tmarkG_any _ (y.P q) (y.ln q) (y.C q) (y.f q) mx _ (((HY.out.rows.row q hlq).below HW.out.bel).mono HW.out.bel.size) (HY.out.nil.2 q hlq) (HY.out.rows.cap q hlq).1 HLM.out (HMC.out _ HW.out.bel)).mono ?_
                  rw [HZ3.out]
                  rintro e w14 ⟨rfl, hb14⟩
                  replace HW := Lib.hid (HW.out.go hb14)
                  replace HTR := Lib.hid (HTR.out.go hb14)
                  clear hb14
                  dsimp only
                  refine hK.out _ _ (by first | exact HCC.out _ HW.out HTR.out | exact HCC.out _ HW.out.drew (HTR.out.go (Below.refl _ _).drew)) (fun hHeld => ?_)
                  clear hK K
                  try simp only [Act.put, List.setIfInBounds_toArray, List.set_cons_zero, List.set_cons_succ]
                  refine one_to (i := 33) (l' := #[true, true, true, true, true, true, true, true, true, true, true, true, true, true, true, true, true, true, true, true, true, true, true, true, true, true, true, true, true, true, true, true, true, true, false, false]) rfl (by kernel_rfl) (by kernel_rfl) (fun K hK => ?_)
                  go_simp
                  refine (rmark_any _ (y.P q) (y.ln q) (y.C q) (y.f q) _ (((HY.out.rows.row q hlq).below HW.out.bel).mono HW.out.bel.size) (HY.out.rows.cap q hlq).1 (HY.out.rows.cap q hlq).2 HLM.out).mono ?_
                  rw [HZ3.out]
                  rintro e w14 ⟨rfl, hb14⟩
                  replace HW := Lib.hid (HW.out.go hb14)
                  replace HTR := Lib.hid (HTR.out.go hb14)
                  clear hb14
                  dsimp only
                  refine hK.out _ _ (by first | exact HCC.out _ HW.out HTR.out | exact HCC.out _ HW.out.drew (HTR.out.go (Below.refl _ _).drew)) (fun hHeld => ?_)
                  clear hK K
                  try simp only [Act.put, List.setIfInBounds_toArray, List.set_cons_zero, List.set_cons_succ]
                  refine take_to (i := 34) (d := some 182) (v := ?_) (l' := #[true, true, true, true, true, true, true, true, true, true, true, true, true, true, true, true, true, true, true, true, true, true, true, true, true, true, true, true, true, true, true, true, true, true, true, false]) rfl rfl (by kernel_rfl) (by kernel_rfl) (by kernel_rfl) (by kernel_rfl) (fun _ _ _ h => h) (Or.inl ⟨by rfl, ?_⟩) (by assumption) ?_; rotate_left; · (intro w' hSw; (try dsimp only at hSw); go_simp; (try with_reducible rfl))
                  try simp only [Act.put, List.setIfInBounds_toArray, List.set_cons_zero, List.set_cons_succ]
                  refine take_to (i := 35) (d := some 183) (v := ?_) (l' := #[true, true, true, true, true, true, true, true, true, true, true, true, true, true, true, true, true, true, true, true, true, true, true, true, true, true, true, true, true, true, true, true, true, true, true, true]) rfl rfl (by kernel_rfl) (by kernel_rfl) (by kernel_rfl) (by kernel_rfl) (fun _ _ _ h => h) (Or.inl ⟨by rfl, ?_⟩) (by assumption) ?_; rotate_left; · (intro w' hSw; (try dsimp only at hSw); go_simp; (try with_reducible rfl))
                  try simp only [Act.put, List.setIfInBounds_toArray, List.set_cons_zero, List.set_cons_succ]
                  refine wpAnyH_done (by kernel_rfl) ?_ _
                  refine NoPanic.normal ?_
                  clear hHeld
                  obtain ⟨e1, e2, e3, e4⟩ := HCC.out _ HW.out HTR.out
                  go_wp2_with fail
                  clear e1 e2 e3 e4
                  have hrow := HTR.out.row q (Nat.le_refl _) hlq
                  refine (LentBytes.over b2 _ (y.ln q) _ _ (owns_first hrow (n := y.ln q) (by omega)) HLK.out).mono ?_
                  rintro e w16 ⟨rfl, hg16⟩
                  have HWn := Lib.hid (HW.out.ch (Ch.gr (x := G q) hg16) (fun k hk e => by have e : k = G q := e; have := (hrow.lt (G q) rfl).1; have := HTR.out.ap; have := HB0.out; omega) (fun z hz e => owns_apart HW.out.r.own hrow (by decide) (G q) rfl (by rw [hz, show z = G q from e])))
                  have HTRn := Lib.hid (HTR.out.over hlq hg16)
                  clear hg16 hrow HW HTR
                  dsimp only
                  refine list_goT (by assumption) ?_
                  go_wp2
                  go_roundw
                  case rel => exact ⟨q + 1, by omega, by go_num, HWn.out, HTRn.out⟩
                  case measure => simp [intOf]; omega
                · go_wp2
                  go_roundw
                  case rel => exact ⟨i + 1, by omega, by go_num, _, L2, HL2.out, HW.out⟩
                  case measure => simp [intOf]; omega
      · have HMC := Lib.hid (show ∀ W, Below w.heap.size w W → W.cell? ⟨mk_lays_ren.g 1, 0, none⟩ = some (.int .i64 mx) from fun W hW => (hW.cell (p := ⟨mk_lays_ren.g 1, 0, none⟩) (block_lt_of_cell HMX.out)).trans HMX.out)
        obtain ⟨z3, hz3⟩ : ∃ z, mkS d.sd d.sm = z := ⟨_, rfl⟩
        have HZ3 := Lib.hid hz3
        have hzz3 : (z3 == z3) = true := by simp
        have HW := HT
        clear hz3 HT
        go_wp2_with fail
        refine (tmarkG_any _ d.sp d.sm d.sc d.sd mx _ ((HSR.out.below HW.out.bel).mono HW.out.bel.size) HSZ.out.1 hsc (by omega) (HMC.out _ HW.out.bel)).mono ?_
        rw [HZ3.out]
        rintro e w14 ⟨rfl, hb14⟩
        replace HW := Lib.hid (HW.out.go hb14)
        clear hb14
        go_wp2_with fail
        refine (rmark_any _ d.sp d.sm d.sc d.sd _ ((HSR.out.below HW.out.bel).mono HW.out.bel.size) hsc (by unfold maxLen; omega) (by omega)).mono ?_
        rw [HZ3.out]
        rintro e w15 ⟨rfl, hb14⟩
        replace HW := Lib.hid (HW.out.go hb14)
        clear hb14
        go_wp2_with fail
        refine (awake4 _).mono ?_
        rintro e w16 ⟨rfl, hb14⟩
        replace HW := Lib.hid (HW.out.go hb14)
        clear hb14
        go_wp2
        go_ret
        exact ⟨rfl, HW.out.bel⟩
end Go.Proofs.YtejknkgbkkdaiaaGreatDoor
