/-
  AgainNever: the walk.
-/
import Derived.Deep.CutRange
import Derived.Deep.CutBlock
import Derived.Test.YtcdnakbdajbfoaaGreatDoorYk
namespace Go.Proofs.YtcdnakbdajbfoaaGreatDoor
open Go.RowKit Go.Sort Go.Maps
set_option linter.unusedSimpArgs false
set_option linter.unusedVariables false
set_option maxRecDepth 20000

set_option maxHeartbeats 16000000 in
set_option maxRecDepth 100000 in
theorem againNever_any (P : Nat → Int) (ap : Option Addr) (ln cp : Nat) (g : Nat → Int) (W0 : World) (B : Nat) (he : EN B W0) (hr : Reads W0.heap.size W0 ap ln (fun i => .int .i64 (g i))) :
    Calls Tryz.prog 6 #[.agg (pc P).toArray, .slice ap ln cp] W0 fun e w' => e = .returned (.bool true) ∧ Below W0.heap.size W0 w' := by
  obtain ⟨X, hX⟩ : ∃ X, X = (pc P).toArray := ⟨_, rfl⟩
  have HX := Lib.hid hX
  have HS := Lib.hid (OV.begin B W0 P X hX)
  have HE := Lib.hid (he.on ((OV.begin B W0 P X hX).b.mono he.k))
  have HB := Lib.hid he.k
  have HR := Lib.hid hr
  have MA := Lib.hid (fun W (h : EN B W) => awake12_any B W h)
  have MP := Lib.hid (fun (L : Nat → Int) W (h : EN B W) => position_any L W B h.gb h.gs h.gm h.gp h.k)
  have MN := Lib.hid (fun W (h : EN B W) => new_any12 B none 0 0 (fun _ _ => 0) (fun i hi => absurd hi (Nat.not_lt_zero _)) (by omega) W h (.inl rfl))
  rw [← hX]
  obtain ⟨ps, hps⟩ : ∃ b, posB P = b := ⟨_, rfl⟩
  have MP1 := Lib.hid (MP.out P)
  rw [hps, ← hX] at MP1
  have HPS := Lib.hid hps
  clear hX he hr hps
  go_enter Tryz.func6, Tryz.ntmps6
  go_upto_region 1 with (fail)
  generalize hw : W0.alloc (.cells X 30) = w1 at *
  clear hw
  go_wp2_with fail
  refine (MA.out _ HE.out).mono ?_
  rintro e w2 ⟨rfl, hb⟩
  replace HS := Lib.hid (HS.out.go hb)
  replace HE := Lib.hid (HE.out.go hb)
  clear hb MA
  dsimp only
  refine list_go (by assumption) ?_
  by_cases h14 : 14 < ln
  · have h15 : (14 : Int) < (ln : Int) := by omega
    go_wp2
    go_ret
    exact ⟨rfl, HS.out.b⟩
  · have h15 : ¬ (14 : Int) < (ln : Int) := by omega
    have HLN := Lib.hid (show ln ≤ 14 by omega)
    clear h14
    go_wp2_with (first | refine wpList_pos (by rfl) _ (by rfl) W0.heap.size P X HX.out (by rfl) HS.out.p ?_ | fail)
    refine (MP1.out _ HE.out).mono ?_
    rintro e w3 ⟨rfl, hb⟩
    replace HS := Lib.hid (HS.out.go hb)
    replace HE := Lib.hid (HE.out.go hb)
    clear hb MP1 h15
    dsimp only
    refine list_go (by assumption) ?_
    cases ps
    · go_wp2
      go_ret
      exact ⟨rfl, HS.out.b⟩
    · go_wp2_with fail
      refine (MN.out _ HE.out).mono ?_
      rintro e w4 ⟨b, mb, rfl, hn⟩
      have HN := Lib.hid (show BW w4 b mb [] ∧ W0.heap.size + 1 ≤ b ∧ W0.heap.size + 1 ≤ mb from ⟨hn.k, by have := hn.hb; have := HS.out.p.lt; omega, by have := hn.hm; have := HS.out.p.lt; omega⟩)
      replace HS := Lib.hid (HS.out.go hn.bl)
      replace HE := Lib.hid (HE.out.go hn.bl)
      clear hn MN
      dsimp only
      refine list_go (by assumption) ?_
      go_upto_region 6 with (fail)
      refine wp_region_lit ?_
      refine wpList_pos (by rfl) _ (by rfl) W0.heap.size P X HX.out (by rfl) HS.out.p ?_
      refine wpList_plain rfl (fun K hK => ?_)
      refine wp_sliceP 1 _ rfl [X] (fun V hx => by rw [List.mem_singleton.1 hx, HX.out]; exact pc_size P) rfl (by omega) (by omega) (by rfl) ?_
      refine hK _ _ ?_
      clear hK K
      rw [show ([X].flatMap fun X => X.toList).toArray = X by simp]
      have HL := Lib.hid (show NL B b mb [] (.slice (some ⟨w4.heap.size, 0, none⟩) 1 1) (fun _ => P) 0 ap ln g W0 (w4.alloc (.cells X 30)) from
        ⟨(HS.out.go (below_new _)).p, HN.out.1.go (below_new _), ⟨by rw [posL_len], .inr ⟨w4.heap.size, 1, X, rfl, by have := HS.out.p.lt; omega, sl_at rfl, by omega, by unfold maxLen; omega, by rw [HX.out, pc_size], by rw [HX.out]; show ((pc P).toArray.toList).take 133 = [] ++ pc P; rw [List.toList_toArray, List.take_of_length_le (by rw [pc_len]; omega)]; rfl⟩⟩,
          HR.out.below (HS.out.go (below_new _)).b, (HS.out.go (below_new _)).b, HE.out.go (below_new _), HN.out.2.1, HN.out.2.2, HB.out⟩)
      clear HS HE HN HR
      generalize w4.alloc (.cells X 30) = w5 at *
      generalize w4.heap.size = ab at *
      have MPU := Lib.hid (put_any12 B b mb [] P (right_in (pos_parts P HPS.out).1) (by simp) w5 HL.out.k HL.out.e)
      rw [← HX.out] at MPU
      go_wp2_with (first | refine wpList_pos (by rfl) _ (by rfl) W0.heap.size P X HX.out (by rfl) HL.out.p ?_ | fail)
      refine MPU.out.mono ?_
      rintro e w6 ⟨rfl, hk, h2⟩
      have HL2 := Lib.hid (show NL B b mb (txN (fun _ => P) (0 + 1)) (.slice (some ⟨ab, 0, none⟩) 1 1) (fun _ => P) 0 ap ln g W0 w6 from HL.out.two hk h2)
      have HRN := Lib.hid (show RN (fun _ => P) 0 0 from ⟨HPS.out, fun k hk => Nat.le_refl _, fun k hk => absurd hk (Nat.not_lt_zero _), Nat.le_refl _⟩)
      clear hk h2 HL MPU
      dsimp only
      refine list_go (by assumption) ?_
      go_wp2
      go_loopw [6, 7, 8] (fun sv fv x wr => ∃ (Ps : Nat → Nat → Int) (i f : Nat), i ≤ ln ∧ x = .int .i64 (i : Int) ∧ fv = .int .i64 (f : Int) ∧ NL B b mb (txN Ps (i + 1)) sv Ps i ap ln g W0 wr ∧ RN Ps i f) (fun _ _ x _ => ln - (intOf x).toNat)
      case atStart => exact ⟨fun _ => P, 0, 0, Nat.zero_le _, rfl, rfl, HL2.out, HRN.out⟩
      case round =>
        clear HL2 HRN
        obtain ⟨Ps, i, f, hi, rfl, rfl, hl, hrn⟩ := hrel
        have HL := Lib.hid hl
        have HRN := Lib.hid hrn
        clear hl hrn
        by_cases hlt : i < ln
        · have i0 : (0 : Int) ≤ (i : Int) := by omega
          have i1 : (i : Int) < (ln : Int) := by omega
          obtain ⟨ab2, cap, rfl, hab, _⟩ := own_at HL.out.own (by omega)
          clear hab
          obtain ⟨pkb, pko, rfl⟩ : ∃ x y, ap = some ⟨x, y, none⟩ := by
            rcases HL.out.r with h | ⟨x, y, h, _⟩
            · omega
            · exact ⟨x, y, h⟩
          have hleg : lmM (Ps i) = legM (Ps i) := by unfold lmM; rw [if_pos HRN.out.pos]
          obtain ⟨Xi, hXi⟩ : ∃ X, X = (pc (Ps i)).toArray := ⟨_, rfl⟩
          have MM1 := Lib.hid (fun W (h : EN B W) => lMoves_any (Ps i) W B h.gb h.gs h.gm h.gp h.k)
          have HOWN := Lib.hid (fun (W : World) base v (h : W.ownsRow base 52 3 v (legM (Ps i)).length (mvals (legM (Ps i)))) => reads3_own h)
          have hll := legM_len (Ps i)
          have HLA := Lib.hid (show ∀ m, m < (legM (Ps i)).length → ∃ s t k : Int, mF (legM (Ps i)) m = s ∧ mT (legM (Ps i)) m = t ∧ mK (legM (Ps i)) m = k ∧ legB (Ps i) s t k = true from fun m hm => by
            obtain ⟨s, t, k, q1, q2, q3, _, hel⟩ := leg_at12 (Ps i) HRN.out.pos m hm
            exact ⟨_, _, _, q1, q2, q3, (legB_iff _ _ _ _).2 (by rw [← hel]; exact List.getElem_mem _)⟩)
          rw [hleg, ← hXi] at MM1
          obtain ⟨n, hn⟩ : ∃ n, (legM (Ps i)).length = n := ⟨_, rfl⟩
          rw [hn] at MM1 HOWN hll HLA
          have HXi := Lib.hid hXi
          generalize mF (legM (Ps i)) = F at *
          generalize mT (legM (Ps i)) = T at *
          generalize mK (legM (Ps i)) = K at *
          clear hleg hXi hn
          go_wp2_with (first | refine wpList_pos (by rfl) _ (by rfl) W0.heap.size (Ps i) Xi HXi.out (by rfl) HL.out.p ?_ | fail)
          refine (MM1.out _ HL.out.e).mono ?_
          rintro e w7 ⟨v, rfl, hb, hown⟩
          obtain ⟨rp, rc, rfl, hr3⟩ := HOWN.out _ _ _ hown
          replace HL := Lib.hid (HL.out.go hb)
          have HR3 := Lib.hid hr3
          clear hb hown hr3 MM1 HOWN
          dsimp only
          refine list_go (by assumption) ?_
          by_cases hz : n = 0
          · subst hz
            go_wp2
            go_ret
            exact ⟨rfl, HL.out.bl⟩
          · have n0 : (0 : Int) < (n : Int) := by omega
            have n1 : ((n : Int) == 0) = false := by simp; omega
            have n2 : ¬ (n : Int) = 0 := by omega
            have hm0 := Int.emod_nonneg (g i) n2
            have hm1 := Int.emod_lt_of_pos (g i) n0
            obtain ⟨i3, hi3⟩ := Int.eq_ofNat_of_zero_le hm0
            have hi3n : i3 < n := by omega
            have MPK := Lib.hid (fun W => pick12_any (g i) (n : Int) n0 (by omega) W)
            rw [hi3] at MPK
            obtain ⟨s, t, k, q1, q2, q3, hlb⟩ := HLA.out i3 hi3n
            obtain ⟨hq, hp1, hp2, hrn2, hnev⟩ := HRN.out.next s t k hlb
            obtain ⟨Q, hQ⟩ : ∃ x, nxP (Ps i) s.toNat t.toNat k = x := ⟨_, rfl⟩
            rw [hQ] at hq hp1 hrn2 hnev
            obtain ⟨V5, hV5⟩ : ∃ X, X = (pc Q).toArray := ⟨_, rfl⟩
            have MY1 := Lib.hid (fun p c W (h : EN B W) hr => lPlay_any (Ps i) (fun _ => s) (fun _ => t) (fun _ => k) p 1 c (by omega) W B h.gb h.gs h.gm h.gp h.k hr)
            rw [hp1, hp2, ← hV5, ← HXi.out] at MY1
            obtain ⟨pb, po, rfl⟩ := HR3.out.addr hi3n
            have HC1 := Lib.hid (show ∀ W, Below w7.heap.size w7 W → W.cell? ⟨pb, po + i3 * 3, none⟩ = some (.int .i64 s) ∧ W.cell? ⟨pb, po + i3 * 3 + 1, none⟩ = some (.int .i64 t) ∧ W.cell? ⟨pb, po + i3 * 3 + 2, none⟩ = some (.int .i64 k) from fun W hb => by
              have := (HR3.out.below hb).cells hi3n
              rw [q1, q2, q3] at this
              exact this)
            have HW := Lib.hid (show ∀ W, Below w7.heap.size w7 W → NL B b mb (txN Ps (i + 1)) (.slice (some ⟨ab2, 0, none⟩) (i + 1) cap) Ps i (some ⟨pkb, pko, none⟩) ln g W0 W from fun W hb => HL.out.go hb)
            have HI := Lib.hid (Below.refl w7.heap.size w7)
            have HPK := Lib.hid (show ∀ W, Below w7.heap.size w7 W → W.cell? ⟨pkb, pko + i, none⟩ = some (.int .i64 (g i)) from fun W hb => (HL.out.go hb).pick hlt)
            have H5 := Lib.hid hV5
            have HVL5 := Lib.hid (show V5.toList = pc Q by rw [hV5])
            have HQP := Lib.hid hq
            have HRN2 := Lib.hid hrn2
            have HNV := Lib.hid hnev
            have j0 : (0 : Int) ≤ (i3 : Int) := by omega
            have j1 : (i3 : Int) < (n : Int) := by omega
            have gi := g i
            obtain ⟨gv, hgv⟩ : ∃ x, g i = x := ⟨_, rfl⟩
            rw [hgv] at MPK HPK
            clear gi hgv hm0 hm1 hi3 q1 q2 q3 hlb hq hp1 hp2 hrn2 hnev hQ hV5 HLA n1 n2 hz
            have n2 : ¬ (n : Int) = 0 := by omega
            have n1 : ((n : Int) == 0) = false := by simp; omega
            go_upto_region 14 with (fail)
            clear n1 n2
            go_cut [10, 11] from 42 to 57 (fun v10 v11 wx => ∃ H, v10 = .pointer (some ⟨H, 0, none⟩) ∧ v11 = .int .i64 0 ∧ PB wx H Q ∧ w7.heap.size ≤ H ∧ Below w7.heap.size w7 wx)
            case first =>
              refine wp_region_noPanic ?_
              refine wp_region_start (n := 19) (l := #[false, false, false, false, false, false, false, false, false, false, false, false, false, false, false, false, false, false, false]) (S := (fun W => Below w7.heap.size w7 W)) (by kernel_rfl) rfl (by kernel_rfl) (by first | exact HI.out | exact HI.out.drew) (fun hHeld => ?_)
              replace HI := Lib.hid (show Below w7.heap.size w7 _ from HI.out.drew)
              generalize hdw : w7.drew = V at *
              clear hdw
              refine tg (i := 0) (d := some 43) (v := (.agg Xi)) rfl rfl ?_ ?_
              · exact yields_posC (by rfl) _ (by rfl) W0.heap.size (Ps i) Xi HXi.out (by rfl) (fun W h => (HW.out W h).p)
              try simp only [aP, sA, sZ, sS]
              refine tq (i := 1) (d := some 44) rfl rfl ?_
              try simp only [aP, sA, sZ, sS]
              refine tq (i := 2) (d := some 45) rfl rfl ?_
              try simp only [aP, sA, sZ, sS]
              refine tq (i := 3) (d := some 46) rfl rfl ?_
              try simp only [aP, sA, sZ, sS]
              refine tq (i := 4) (d := some 47) rfl rfl ?_
              try simp only [aP, sA, sZ, sS]
              refine tg (i := 5) (d := some 48) (v := (.int .i64 gv)) rfl rfl ?_ ?_
              · refine Or.inl ⟨by rfl, ?_⟩; intro w' hSw; (try dsimp only at hSw); have e0 := HPK.out w' hSw; go_simp
              try simp only [aP, sA, sZ, sS]
              refine tq (i := 6) (d := some 49) rfl rfl ?_
              try simp only [aP, sA, sZ, sS]
              refine tq (i := 7) (d := some 50) rfl rfl ?_
              try simp only [aP, sA, sZ, sS]
              refine wg (i := 8) (j := 16) rfl rfl (by kernel_rfl) (fun K hK => ?_) (fun K hK => ?_)
              · skip
                go_simp
                refine (MPK.out _).mono ?_
                rintro e V ⟨rfl, rfl⟩
                dsimp only
                refine hK.out _ _ (by first | exact HI.out | exact HI.out.drew) (fun hHeld => ?_)
                clear hK K
                try simp only [aP, sA, sZ, sS]
                refine tq (i := 9) (d := some 52) rfl rfl ?_
                try simp only [aP, sA, sZ, sS]
                refine tg (i := 10) (d := some 53) (v := (.agg #[.int .i64 s, .int .i64 t, .int .i64 k])) rfl rfl ?_ ?_
                · refine Or.inl ⟨by rfl, ?_⟩; intro w' hSw; (try dsimp only at hSw); obtain ⟨e0, e1, e2⟩ := HC1.out w' hSw; go_simp
                try simp only [aP, sA, sZ, sS]
                refine wg (i := 11) (j := 16) rfl rfl (by kernel_rfl) (fun K hK => ?_) (fun K hK => ?_)
                · skip
                  go_simp
                  have hb : Below V.heap.size V (V.alloc (.cells #[.int .i64 s, .int .i64 t, .int .i64 k] 52)) := below_new _
                  have HAT := Lib.hid (one_row12 V s t k)
                  replace HI := Lib.hid (HI.out.trans (hb.mono HI.out.size))
                  try replace HZB := Lib.hid (HZB.out.go hb)
                  clear hb
                  generalize V.alloc (.cells #[.int .i64 s, .int .i64 t, .int .i64 k] 52) = V at *
                  refine hK.out _ _ (by first | exact HI.out | exact HI.out.drew) (fun hHeld => ?_)
                  clear hK K
                  try simp only [aP, sA, sZ, sS]
                  refine wg (i := 12) (j := 16) rfl rfl (by kernel_rfl) (fun K hK => ?_) (fun K hK => ?_)
                  · skip
                    go_simp
                    refine (MY1.out _ _ _ (HW.out _ HI.out).e HAT.out).mono ?_
                    rintro e V ⟨rfl, hb⟩
                    replace HI := Lib.hid (HI.out.trans (hb.mono HI.out.size))
                    try replace HZB := Lib.hid (HZB.out.go hb)
                    clear hb HAT
                    dsimp only
                    refine hK.out _ _ (by first | exact HI.out | exact HI.out.drew) (fun hHeld => ?_)
                    clear hK K
                    try simp only [aP, sA, sZ, sS]
                    refine tq (i := 13) (d := some 42) rfl rfl ?_
                    try simp only [aP, sA, sZ, sS]
                    refine tq (i := 14) (d := some 56) rfl rfl ?_
                    try simp only [aP, sA, sZ, sS]
                    refine tq (i := 15) (d := some 57) rfl rfl ?_
                    try simp only [aP, sA, sZ, sS]
                    refine og (i := 16) rfl (by kernel_rfl) (fun K hK => ?_)
                    go_simp
                    have hb5 : Below V.heap.size V (V.alloc (.cells Tryz.zeroCells30 30)) := below_new _
                    have HZB := Lib.hid (show PB (V.alloc (.cells Tryz.zeroCells30 30)) V.heap.size (fun _ => 0) by rw [zeroPosY]; exact PB.new rfl)
                    have HHL := Lib.hid (show w7.heap.size ≤ V.heap.size from HI.out.size)
                    replace HI := Lib.hid (HI.out.trans (hb5.mono HI.out.size))
                    try replace HAT := Lib.hid ((HAT.out.below hb5).mono hb5.size)
                    clear hb5
                    generalize V.heap.size = HH at HZB HHL ⊢
                    generalize V.alloc (.cells Tryz.zeroCells30 30) = V at *
                    refine hK.out _ _ (by first | exact HI.out | exact HI.out.drew) (fun hHeld => ?_)
                    clear hK K
                    try simp only [aP, sA, sZ, sS]
                    refine og (i := 17) rfl (by kernel_rfl) (fun K hK => ?_)
                    rw [if_pos (by rfl)]
                    refine wp_store_mid 30 _ _ rfl HH 0 V5 rfl rfl (by rw [H5.out, pc_size]; exact HZB.out.there) (by rw [infoPos, H5.out, pc_size]) (by rw [H5.out]; exact pc_one _) ?_
                    rw [HVL5.out]
                    have HNB := Lib.hid (HZB.out.store (Q := Q))
                    replace HI := Lib.hid (below_store (b := HH) Q HI.out HHL.out HI.out.size)
                    generalize V.setCells HH 0 (pc Q) = V at HNB HI ⊢
                    refine hK.out _ _ (by first | exact HI.out | exact HI.out.drew) (fun hHeld => ?_)
                    clear hK K
                    try simp only [aP, sA, sZ, sS]
                    refine tq (i := 18) (d := some 11) rfl rfl ?_
                    try simp only [aP, sA, sZ, sS]
                    refine wpAnyH_done (by kernel_rfl) ?_ _
                    refine NoPanic.normal ?_
                    clear hHeld
                    go_wp2_with fail
                    go_meet
                    exact ⟨HH, rfl, rfl, HNB.out, HHL.out, HI.out⟩
                  · skip
                    go_simp
                    have hb5 : Below V.heap.size V (V.alloc (.cells Tryz.zeroCells30 30)) := below_new _
                    have HZB := Lib.hid (show PB (V.alloc (.cells Tryz.zeroCells30 30)) V.heap.size (fun _ => 0) by rw [zeroPosY]; exact PB.new rfl)
                    have HHL := Lib.hid (show w7.heap.size ≤ V.heap.size from HI.out.size)
                    replace HI := Lib.hid (HI.out.trans (hb5.mono HI.out.size))
                    try replace HAT := Lib.hid ((HAT.out.below hb5).mono hb5.size)
                    clear hb5
                    generalize V.heap.size = HH at HZB HHL ⊢
                    generalize V.alloc (.cells Tryz.zeroCells30 30) = V at *
                    refine hK.out _ _ (by first | exact HI.out | exact HI.out.drew) (fun hHeld => ?_)
                    clear hK K
                    try simp only [aP, sA, sZ, sS]
                    refine og (i := 12) rfl (by kernel_rfl) (fun K hK => ?_)
                    go_simp
                    refine (MY1.out _ _ _ (HW.out _ HI.out).e HAT.out).mono ?_
                    rintro e V ⟨rfl, hb⟩
                    replace HI := Lib.hid (HI.out.trans (hb.mono HI.out.size))
                    try replace HZB := Lib.hid (HZB.out.go hb)
                    clear hb HAT
                    dsimp only
                    refine hK.out _ _ (by first | exact HI.out | exact HI.out.drew) (fun hHeld => ?_)
                    clear hK K
                    try simp only [aP, sA, sZ, sS]
                    refine tq (i := 13) (d := some 42) rfl rfl ?_
                    try simp only [aP, sA, sZ, sS]
                    refine tq (i := 14) (d := some 56) rfl rfl ?_
                    try simp only [aP, sA, sZ, sS]
                    refine tq (i := 15) (d := some 57) rfl rfl ?_
                    try simp only [aP, sA, sZ, sS]
                    refine og (i := 17) rfl (by kernel_rfl) (fun K hK => ?_)
                    rw [if_pos (by rfl)]
                    refine wp_store_mid 30 _ _ rfl HH 0 V5 rfl rfl (by rw [H5.out, pc_size]; exact HZB.out.there) (by rw [infoPos, H5.out, pc_size]) (by rw [H5.out]; exact pc_one _) ?_
                    rw [HVL5.out]
                    have HNB := Lib.hid (HZB.out.store (Q := Q))
                    replace HI := Lib.hid (below_store (b := HH) Q HI.out HHL.out HI.out.size)
                    generalize V.setCells HH 0 (pc Q) = V at HNB HI ⊢
                    refine hK.out _ _ (by first | exact HI.out | exact HI.out.drew) (fun hHeld => ?_)
                    clear hK K
                    try simp only [aP, sA, sZ, sS]
                    refine tq (i := 18) (d := some 11) rfl rfl ?_
                    try simp only [aP, sA, sZ, sS]
                    refine wpAnyH_done (by kernel_rfl) ?_ _
                    refine NoPanic.normal ?_
                    clear hHeld
                    go_wp2_with fail
                    go_meet
                    exact ⟨HH, rfl, rfl, HNB.out, HHL.out, HI.out⟩
                · skip
                  go_simp
                  have hb5 : Below V.heap.size V (V.alloc (.cells Tryz.zeroCells30 30)) := below_new _
                  have HZB := Lib.hid (show PB (V.alloc (.cells Tryz.zeroCells30 30)) V.heap.size (fun _ => 0) by rw [zeroPosY]; exact PB.new rfl)
                  have HHL := Lib.hid (show w7.heap.size ≤ V.heap.size from HI.out.size)
                  replace HI := Lib.hid (HI.out.trans (hb5.mono HI.out.size))
                  try replace HAT := Lib.hid ((HAT.out.below hb5).mono hb5.size)
                  clear hb5
                  generalize V.heap.size = HH at HZB HHL ⊢
                  generalize V.alloc (.cells Tryz.zeroCells30 30) = V at *
                  refine hK.out _ _ (by first | exact HI.out | exact HI.out.drew) (fun hHeld => ?_)
                  clear hK K
                  try simp only [aP, sA, sZ, sS]
                  refine og (i := 11) rfl (by kernel_rfl) (fun K hK => ?_)
                  go_simp
                  have hb : Below V.heap.size V (V.alloc (.cells #[.int .i64 s, .int .i64 t, .int .i64 k] 52)) := below_new _
                  have HAT := Lib.hid (one_row12 V s t k)
                  replace HI := Lib.hid (HI.out.trans (hb.mono HI.out.size))
                  try replace HZB := Lib.hid (HZB.out.go hb)
                  clear hb
                  generalize V.alloc (.cells #[.int .i64 s, .int .i64 t, .int .i64 k] 52) = V at *
                  refine hK.out _ _ (by first | exact HI.out | exact HI.out.drew) (fun hHeld => ?_)
                  clear hK K
                  try simp only [aP, sA, sZ, sS]
                  refine og (i := 12) rfl (by kernel_rfl) (fun K hK => ?_)
                  go_simp
                  refine (MY1.out _ _ _ (HW.out _ HI.out).e HAT.out).mono ?_
                  rintro e V ⟨rfl, hb⟩
                  replace HI := Lib.hid (HI.out.trans (hb.mono HI.out.size))
                  try replace HZB := Lib.hid (HZB.out.go hb)
                  clear hb HAT
                  dsimp only
                  refine hK.out _ _ (by first | exact HI.out | exact HI.out.drew) (fun hHeld => ?_)
                  clear hK K
                  try simp only [aP, sA, sZ, sS]
                  refine tq (i := 13) (d := some 42) rfl rfl ?_
                  try simp only [aP, sA, sZ, sS]
                  refine tq (i := 14) (d := some 56) rfl rfl ?_
                  try simp only [aP, sA, sZ, sS]
                  refine tq (i := 15) (d := some 57) rfl rfl ?_
                  try simp only [aP, sA, sZ, sS]
                  refine og (i := 17) rfl (by kernel_rfl) (fun K hK => ?_)
                  rw [if_pos (by rfl)]
                  refine wp_store_mid 30 _ _ rfl HH 0 V5 rfl rfl (by rw [H5.out, pc_size]; exact HZB.out.there) (by rw [infoPos, H5.out, pc_size]) (by rw [H5.out]; exact pc_one _) ?_
                  rw [HVL5.out]
                  have HNB := Lib.hid (HZB.out.store (Q := Q))
                  replace HI := Lib.hid (below_store (b := HH) Q HI.out HHL.out HI.out.size)
                  generalize V.setCells HH 0 (pc Q) = V at HNB HI ⊢
                  refine hK.out _ _ (by first | exact HI.out | exact HI.out.drew) (fun hHeld => ?_)
                  clear hK K
                  try simp only [aP, sA, sZ, sS]
                  refine tq (i := 18) (d := some 11) rfl rfl ?_
                  try simp only [aP, sA, sZ, sS]
                  refine wpAnyH_done (by kernel_rfl) ?_ _
                  refine NoPanic.normal ?_
                  clear hHeld
                  go_wp2_with fail
                  go_meet
                  exact ⟨HH, rfl, rfl, HNB.out, HHL.out, HI.out⟩
              · skip
                go_simp
                have hb5 : Below V.heap.size V (V.alloc (.cells Tryz.zeroCells30 30)) := below_new _
                have HZB := Lib.hid (show PB (V.alloc (.cells Tryz.zeroCells30 30)) V.heap.size (fun _ => 0) by rw [zeroPosY]; exact PB.new rfl)
                have HHL := Lib.hid (show w7.heap.size ≤ V.heap.size from HI.out.size)
                replace HI := Lib.hid (HI.out.trans (hb5.mono HI.out.size))
                try replace HAT := Lib.hid ((HAT.out.below hb5).mono hb5.size)
                clear hb5
                generalize V.heap.size = HH at HZB HHL ⊢
                generalize V.alloc (.cells Tryz.zeroCells30 30) = V at *
                refine hK.out _ _ (by first | exact HI.out | exact HI.out.drew) (fun hHeld => ?_)
                clear hK K
                try simp only [aP, sA, sZ, sS]
                refine og (i := 8) rfl (by kernel_rfl) (fun K hK => ?_)
                go_simp
                refine (MPK.out _).mono ?_
                rintro e V ⟨rfl, rfl⟩
                dsimp only
                refine hK.out _ _ (by first | exact HI.out | exact HI.out.drew) (fun hHeld => ?_)
                clear hK K
                try simp only [aP, sA, sZ, sS]
                refine tq (i := 9) (d := some 52) rfl rfl ?_
                try simp only [aP, sA, sZ, sS]
                refine tg (i := 10) (d := some 53) (v := (.agg #[.int .i64 s, .int .i64 t, .int .i64 k])) rfl rfl ?_ ?_
                · refine Or.inl ⟨by rfl, ?_⟩; intro w' hSw; (try dsimp only at hSw); obtain ⟨e0, e1, e2⟩ := HC1.out w' hSw; go_simp
                try simp only [aP, sA, sZ, sS]
                refine og (i := 11) rfl (by kernel_rfl) (fun K hK => ?_)
                go_simp
                have hb : Below V.heap.size V (V.alloc (.cells #[.int .i64 s, .int .i64 t, .int .i64 k] 52)) := below_new _
                have HAT := Lib.hid (one_row12 V s t k)
                replace HI := Lib.hid (HI.out.trans (hb.mono HI.out.size))
                try replace HZB := Lib.hid (HZB.out.go hb)
                clear hb
                generalize V.alloc (.cells #[.int .i64 s, .int .i64 t, .int .i64 k] 52) = V at *
                refine hK.out _ _ (by first | exact HI.out | exact HI.out.drew) (fun hHeld => ?_)
                clear hK K
                try simp only [aP, sA, sZ, sS]
                refine og (i := 12) rfl (by kernel_rfl) (fun K hK => ?_)
                go_simp
                refine (MY1.out _ _ _ (HW.out _ HI.out).e HAT.out).mono ?_
                rintro e V ⟨rfl, hb⟩
                replace HI := Lib.hid (HI.out.trans (hb.mono HI.out.size))
                try replace HZB := Lib.hid (HZB.out.go hb)
                clear hb HAT
                dsimp only
                refine hK.out _ _ (by first | exact HI.out | exact HI.out.drew) (fun hHeld => ?_)
                clear hK K
                try simp only [aP, sA, sZ, sS]
                refine tq (i := 13) (d := some 42) rfl rfl ?_
                try simp only [aP, sA, sZ, sS]
                refine tq (i := 14) (d := some 56) rfl rfl ?_
                try simp only [aP, sA, sZ, sS]
                refine tq (i := 15) (d := some 57) rfl rfl ?_
                try simp only [aP, sA, sZ, sS]
                refine og (i := 17) rfl (by kernel_rfl) (fun K hK => ?_)
                rw [if_pos (by rfl)]
                refine wp_store_mid 30 _ _ rfl HH 0 V5 rfl rfl (by rw [H5.out, pc_size]; exact HZB.out.there) (by rw [infoPos, H5.out, pc_size]) (by rw [H5.out]; exact pc_one _) ?_
                rw [HVL5.out]
                have HNB := Lib.hid (HZB.out.store (Q := Q))
                replace HI := Lib.hid (below_store (b := HH) Q HI.out HHL.out HI.out.size)
                generalize V.setCells HH 0 (pc Q) = V at HNB HI ⊢
                refine hK.out _ _ (by first | exact HI.out | exact HI.out.drew) (fun hHeld => ?_)
                clear hK K
                try simp only [aP, sA, sZ, sS]
                refine tq (i := 18) (d := some 11) rfl rfl ?_
                try simp only [aP, sA, sZ, sS]
                refine wpAnyH_done (by kernel_rfl) ?_ _
                refine NoPanic.normal ?_
                clear hHeld
                go_wp2_with fail
                go_meet
                exact ⟨HH, rfl, rfl, HNB.out, HHL.out, HI.out⟩
            case rest =>
            obtain ⟨H, rfl, rfl, h1, h2, h3⟩ := hcut
            have HPN := Lib.hid h1
            have HHB := Lib.hid (show H ≠ b ∧ H ≠ mb ∧ ab2 ≠ H ∧ ab2 ≠ W0.heap.size from ⟨by have := HL.out.k.ltb; omega, by have := HL.out.k.m.lt; omega, by have := (HL.out.own.lt ab2 rfl).2; omega, by have := (HL.out.own.lt ab2 rfl).1; omega⟩)
            have HIN := Lib.hid h3
            clear h1 h2 h3
            go_upto_region 17 with (fail)
            refine forget_B (fun W => PB W H Q ∧ Below w7.heap.size w7 W) ⟨HPN.out, HIN.out⟩ ?_
            clear HPN HIN
            rintro w8 ⟨h1, h2⟩
            replace HL := Lib.hid (And.intro (HW.out _ h2) h1)
            clear h1 h2 HW HI MY1 MPK HC1 HPK HR3 HVL5
            have c1 := HL.out.2.cell 131 (by omega)
            have c2 := HL.out.2.cell 129 (by omega)
            have c3 := HL.out.1.p.cell 129 (by omega)
            obtain ⟨qh, hqh⟩ : ∃ x, Q 131 = x := ⟨_, rfl⟩
            obtain ⟨qc, hqc⟩ : ∃ x, Q 129 = x := ⟨_, rfl⟩
            obtain ⟨pq, hpq⟩ : ∃ x, Ps i 129 = x := ⟨_, rfl⟩
            obtain ⟨t1, ht1⟩ : ∃ x, (qh == 0) = x := ⟨_, rfl⟩
            obtain ⟨t2, ht2⟩ : ∃ x, (qc != pq) = x := ⟨_, rfl⟩
            have hfl : flagB (Ps i) Q = (t1 || t2) := by unfold flagB; rw [hqh, hqc, hpq, ht1, ht2]
            rw [hfl] at HRN2 HNV
            rw [hqh] at c1
            rw [hqc] at c2
            rw [hpq] at c3
            clear hqh hqc hpq hfl
            go_cut [69] from 60 to 68 (fun v69 wx => v69 = .bool (t1 || t2) ∧ NL B b mb (txN Ps (i + 1)) (.slice (some ⟨ab2, 0, none⟩) (i + 1) cap) Ps i (some ⟨pkb, pko, none⟩) ln g W0 wx ∧ PB wx H Q)
            case first =>
              cases t1
              · go_wp2_with fail
                go_meet
                exact ⟨by rfl, HL.out⟩
              · go_wp2_with fail
                go_meet
                exact ⟨by rfl, HL.out⟩
            case rest =>
            obtain ⟨rfl, h1, h2⟩ := hcut
            replace HL := Lib.hid (And.intro h1 h2)
            obtain ⟨fl, hfl⟩ : ∃ x, (t1 || t2) = x := ⟨_, rfl⟩
            rw [hfl] at HRN2 HNV
            rw [hfl]
            clear h1 h2 c1 c2 c3 ht1 ht2 hfl
            go_upto_if 69 with (fail)
            go_cut [7] from 70 to 71 (fun v7 wx => v7 = .int .i64 ((if fl then i + 1 else f : Nat) : Int) ∧ NL B b mb (txN Ps (i + 1)) (.slice (some ⟨ab2, 0, none⟩) (i + 1) cap) Ps i (some ⟨pkb, pko, none⟩) ln g W0 wx ∧ PB wx H Q)
            case first =>
              cases fl
              · go_wp2_with fail
                go_meet
                exact ⟨by rfl, HL.out⟩
              · go_wp2_with fail
                go_meet
                exact ⟨by rfl, HL.out⟩
            case rest =>
            obtain ⟨rfl, h1, h2⟩ := hcut
            replace HL := Lib.hid (And.intro h1 h2)
            obtain ⟨f2, hf2⟩ : ∃ x, (if fl then i + 1 else f) = x := ⟨_, rfl⟩
            rw [hf2] at HRN2 HNV
            rw [hf2]
            clear h1 h2 hf2
            go_wp2
            go_loopw [12, 13] (fun nv x wr => ∃ k : Nat, k ≤ i + 1 ∧ x = .int .i64 (k : Int) ∧ nv = .int .i64 ((cN Ps Q k : Nat) + 1 : Int) ∧ NL B b mb (txN Ps (i + 1)) (.slice (some ⟨ab2, 0, none⟩) (i + 1) cap) Ps i (some ⟨pkb, pko, none⟩) ln g W0 wr ∧ PB wr H Q) (fun _ x _ => i + 1 - (intOf x).toNat)
            case atStart => exact ⟨0, Nat.zero_le _, rfl, rfl, HL.out.1, HL.out.2⟩
            case round =>
              clear HL
              obtain ⟨k, hk, rfl, rfl, h1, h2⟩ := hrel
              have HL := Lib.hid (And.intro h1 h2)
              clear h1 h2
              by_cases hkl : k < i + 1
              · have k0 : (0 : Int) ≤ (k : Int) := by omega
                have k1 : (k : Int) < (i : Int) + 1 := by omega
                have k2 : (k : Int) ≤ 15 := by have := HLN.out; omega
                obtain ⟨Xk, hXk⟩ : ∃ X, X = (pc (Ps k)).toArray := ⟨_, rfl⟩
                have HXk := Lib.hid hXk
                have MS1 := Lib.hid (fun W (h : EN B W) => same_any12 (Ps k) Q W B h.gb h.gs h.gm h.gp h.k)
                obtain ⟨sm, hsm⟩ : ∃ b, samB (Ps k) Q = b := ⟨_, rfl⟩
                rw [hsm, ← hXk, ← H5.out] at MS1
                have hc1 : cN Ps Q (k + 1) = cN Ps Q k + if sm then 1 else 0 := by show _ + (if samB (Ps k) Q then 1 else 0) = _; rw [hsm]
                have hcl := cN_le Ps Q k
                have HNF := Lib.hid (show sm = true → ¬ k < f2 from fun e h => by have := HNV.out k (by omega) h; rw [hsm, e] at this; cases this)
                obtain ⟨c, hc⟩ : ∃ c, cN Ps Q k = c := ⟨_, rfl⟩
                rw [hc] at hc1 hcl
                rw [hc]
                have HC := Lib.hid hc1
                have c0 : (0 : Int) ≤ (c : Int) := by omega
                have c1 : (c : Int) ≤ 15 := by have := HLN.out; omega
                clear hsm hc1 hcl hc hXk
                go_upto_region 23 with (fail)
                refine wp_region_noPanic ?_
                refine wp_region_start (n := 6) (l := #[false, false, false, false, false, false]) (S := (fun W => NL B b mb (txN Ps (i + 1)) (.slice (some ⟨ab2, 0, none⟩) (i + 1) cap) Ps i (some ⟨pkb, pko, none⟩) ln g W0 W ∧ PB W H Q)) (by kernel_rfl) rfl (by kernel_rfl) (by first | exact HL.out | exact ⟨HL.out.1.go (Below.refl _ _).drew, HL.out.2.go (Below.refl _ _).drew⟩) (fun hHeld => ?_)
                replace HL := Lib.hid (And.intro (HL.out.1.go (Below.refl _ _).drew) (HL.out.2.go (Below.refl _ _).drew))
                refine tq (i := 0) (d := some 78) rfl rfl ?_
                try simp only [aP, sA, sZ, sS]
                refine tq (i := 1) (d := some 79) rfl rfl ?_
                try simp only [aP, sA, sZ, sS]
                refine tq (i := 2) (d := some 80) rfl rfl ?_
                try simp only [aP, sA, sZ, sS]
                refine tg (i := 3) (d := some 81) (v := (.agg Xk)) rfl rfl ?_ ?_
                · exact yields_posAt (by rfl) _ (by rfl) ab2 (k * 133) (Ps k) Xk HXk.out (by rfl) (fun W h => h.1.at hkl)
                try simp only [aP, sA, sZ, sS]
                refine tg (i := 4) (d := some 82) (v := (.agg V5)) rfl rfl ?_ ?_
                · exact yields_posC (by rfl) _ (by rfl) H Q V5 H5.out (by rfl) (fun W h => h.2)
                try simp only [aP, sA, sZ, sS]
                refine og (i := 5) rfl (by kernel_rfl) (fun K hK => ?_)
                go_simp
                refine (MS1.out _ HL.out.1.e).mono ?_
                rintro e U ⟨rfl, hb⟩
                replace HL := Lib.hid (And.intro (HL.out.1.go hb) (HL.out.2.go hb))
                clear hb
                dsimp only
                refine hK.out _ _ (by first | exact HL.out | exact ⟨HL.out.1.go (Below.refl _ _).drew, HL.out.2.go (Below.refl _ _).drew⟩) (fun hHeld => ?_)
                clear hK K
                try simp only [aP, sA, sZ, sS]
                refine wpAnyH_done (by kernel_rfl) ?_ _
                refine NoPanic.normal ?_
                clear hHeld
                clear MS1
                cases sm
                · go_wp2
                  go_roundw
                  case rel => exact ⟨k + 1, by omega, by go_num, by rw [HC.out]; rfl, HL.out.1, HL.out.2⟩
                  case measure => simp [intOf]; omega
                · have hf := HNF.out rfl
                  have hfi : ¬ (k : Int) < (f2 : Int) := by omega
                  go_wp2
                  go_roundw
                  case rel => exact ⟨k + 1, by omega, by go_num, by rw [HC.out]; go_num, HL.out.1, HL.out.2⟩
                  case measure => simp [intOf]; omega
              · obtain rfl : k = i + 1 := by omega
                have hcnt := cnt_txN Ps Q (i + 1)
                have hcl := cN_le Ps Q (i + 1)
                obtain ⟨c, hc⟩ : ∃ c, cN Ps Q (i + 1) = c := ⟨_, rfl⟩
                rw [hc] at hcl hcnt
                rw [hc]
                have hin : InW Q := right_in (pos_parts Q HQP.out).1
                have hll2 := HLN.out
                have MC := Lib.hid (fun W (h : NL B b mb (txN Ps (i + 1)) (.slice (some ⟨ab2, 0, none⟩) (i + 1) cap) Ps i (some ⟨pkb, pko, none⟩) ln g W0 W) => copy_any12 B b mb (txN Ps (i + 1)) W h.k h.e)
                have MPU := Lib.hid (fun W (h : NL B b mb (txN Ps (i + 1)) (.slice (some ⟨ab2, 0, none⟩) (i + 1) cap) Ps i (some ⟨pkb, pko, none⟩) ln g W0 W) => put_any12 B b mb (txN Ps (i + 1)) Q hin (by rw [txN_len]; omega) W h.k h.e)
                have MM2 := Lib.hid (fun W (h : NL B b mb (kyB Q :: txN Ps (i + 1)) (.slice (some ⟨ab2, 0, none⟩) (i + 1) cap) Ps i (some ⟨pkb, pko, none⟩) ln g W0 W) => many_any B b mb (kyB Q :: txN Ps (i + 1)) Q hin W h.k h.e)
                have MM3 := Lib.hid (fun b2 c2 W (hk : BW W b2 c2 (txN Ps (i + 1))) (h : EN B W) => many_any B b2 c2 (txN Ps (i + 1)) Q hin W hk h)
                have MO := Lib.hid (fun W (h : NL B b mb (kyB Q :: txN Ps (i + 1)) (.slice (some ⟨ab2, 0, none⟩) (i + 1) cap) Ps i (some ⟨pkb, pko, none⟩) ln g W0 W) => most_any12 b mb (kyB Q :: txN Ps (i + 1)) W h.k)
                have e1 : ((cntT (kyB Q :: txN Ps (i + 1)) (kyB Q) : Nat) : Int) = (c : Int) + 1 := by rw [cntT_same, hcnt]; omega
                obtain ⟨mo, hmo⟩ : ∃ x, mostT (kyB Q :: txN Ps (i + 1)) = x := ⟨_, rfl⟩
                have hm2 : c + 1 ≤ mo := by rw [← hmo]; show c + 1 ≤ max _ _; rw [cntT_same, hcnt]; omega
                have hm3 : ¬ (mo : Int) < (c : Int) + 1 := by omega
                rw [e1, ← H5.out] at MPU MM2
                rw [hcnt, ← H5.out] at MM3
                rw [hmo] at MO
                have c0 : (0 : Int) ≤ (c : Int) := by omega
                have c1 : (c : Int) ≤ 15 := by omega
                clear hc hcnt hcl hin e1 hmo hm2
                go_wp2_with fail
                refine (MC.out _ HL.out.1).mono ?_
                rintro e w9 ⟨b2, d2, rfl, hb2, hd2, hbw, hb⟩
                have HNE := Lib.hid (show b2 ≠ b ∧ b2 ≠ mb ∧ d2 ≠ b ∧ d2 ≠ mb from ⟨by have := HL.out.1.k.ltb; omega, by have := HL.out.1.k.m.lt; omega, by have := HL.out.1.k.ltb; omega, by have := HL.out.1.k.m.lt; omega⟩)
                replace HL := Lib.hid (And.intro (HL.out.1.go hb) (HL.out.2.go hb))
                have HBW := Lib.hid hbw
                clear hb hbw hb2 hd2 MC
                dsimp only
                refine list_go (by assumption) ?_
                go_wp2_with (first | refine wpList_pos (by rfl) _ (by rfl) H Q V5 H5.out (by rfl) HL.out.2 ?_ | fail)
                refine (MPU.out _ HL.out.1).mono ?_
                rintro e w10 ⟨rfl, hk, h2⟩
                replace HBW := Lib.hid (HBW.out.two h2 HNE.out.1 HNE.out.2.1 HNE.out.2.2.1 HNE.out.2.2.2)
                replace HL := Lib.hid (And.intro (HL.out.1.two hk h2) (h2.pb HL.out.2 HHB.out.1 HHB.out.2.1))
                clear hk h2 MPU HNE
                dsimp only
                refine list_go (by assumption) ?_
                go_wp2_with (first | refine wpList_pos (by rfl) _ (by rfl) H Q V5 H5.out (by rfl) HL.out.2 ?_ | fail)
                refine (MM2.out _ HL.out.1).mono ?_
                rintro e w11 ⟨rfl, hb⟩
                replace HL := Lib.hid (And.intro (HL.out.1.go hb) (HL.out.2.go hb))
                replace HBW := Lib.hid (HBW.out.go hb)
                clear hb MM2
                dsimp only
                refine list_go (by assumption) ?_
                go_wp2_with (first | refine wpList_pos (by rfl) _ (by rfl) H Q V5 H5.out (by rfl) HL.out.2 ?_ | fail)
                refine (MM3.out _ _ _ HBW.out HL.out.1.e).mono ?_
                rintro e w12 ⟨rfl, hb⟩
                replace HL := Lib.hid (And.intro (HL.out.1.go hb) (HL.out.2.go hb))
                clear hb MM3 HBW
                dsimp only
                refine list_go (by assumption) ?_
                go_wp2_with fail
                refine (MO.out _ HL.out.1).mono ?_
                rintro e w13 ⟨rfl, rfl⟩
                clear MO
                dsimp only
                refine list_go (by assumption) ?_
                go_upto_region 30 with (fail)
                clear hm3 c0 c1
                refine wp_region_lit ?_
                refine wpList_plain rfl (fun K hK => ?_)
                go_simp
                refine hK _ _ ?_
                clear hK K
                refine wpList_pos (by rfl) _ (by rfl) H Q V5 H5.out (by rfl) HL.out.2 ?_
                refine wpList_plain rfl (fun K hK => ?_)
                refine wp_sliceP 1 _ rfl [V5] (fun V hx => by rw [List.mem_singleton.1 hx, H5.out]; exact pc_size Q) rfl (by omega) (by omega) (by rfl) ?_
                refine hK _ _ ?_
                clear hK K
                rw [show ([V5].flatMap fun X => X.toList).toArray = V5 by simp]
                have HQN := Lib.hid (show PB (w13.alloc (.cells V5 30)) w13.heap.size Q by rw [H5.out]; exact PB.new rfl)
                replace HL := Lib.hid (And.intro (HL.out.1.go (below_new (.cells V5 30))) (HL.out.2.go (below_new (.cells V5 30))))
                generalize w13.alloc (.cells V5 30) = w14 at *
                generalize w13.heap.size = nb at *
                obtain ⟨ie, hie, hz1, hz2, hz3⟩ := infoPosAll
                obtain ⟨z, hz, hzs⟩ := hz1
                have hsb : (i + 1 + 1) * 1064 ≤ 140737488355328 := by omega
                have hw14 : W0.heap.size + 1 ≤ w14.heap.size := by have := HL.out.1.p.lt; omega
                go_wp2_with (at_builtin; refine wpList_append_own _ rfl _ _ 22 rfl (W0.heap.size + 1) 30 ie z 133 1064 Tryz.underlying22 hie hz hz2 hz3 hzs (by omega) _ _ _ rfl HL.out.1.own ⟨nb, 0, none⟩ 1 1 (pc Q) rfl (by rw [pc_len]) (fun j u hj => by rw [Go.WideShapes.add_plain]; exact HQN.out.range j u hj) (fun u hu => by have := Array.all_eq_true'.1 (pc_one Q) u (by simpa using hu); exact this) (by unfold maxLen; omega) hsb hw14 ?_)
                intro v2 w15 hown2 hgrow _
                have HF := Lib.hid (HL.out.1.more hown2 hgrow rfl)
                have HQ15 := Lib.hid (HL.out.2.gr12 (x := ab2) hgrow HHB.out.2.2.1)
                have HP15 := Lib.hid (HL.out.1.p.gr12 (x := ab2) hgrow HHB.out.2.2.2)
                clear hown2 hgrow HQN HL hie hz hzs hz2 hz3 hsb hw14
                go_upto_region 31 with (fail)
                refine wp_region_lit ?_
                refine wpList_pos (by rfl) _ (by rfl) H Q V5 H5.out (by rfl) HQ15.out ?_
                refine wpList_store_mid rfl 30 _ _ rfl W0.heap.size 0 V5 rfl rfl (by rw [H5.out, pc_size]; exact HP15.out.there) (by rw [infoPos, H5.out, pc_size]) (by rw [H5.out]; exact pc_one _) ?_
                rw [show V5.toList = pc Q by rw [H5.out]]
                generalize w15.setCells W0.heap.size 0 (pc Q) = w16 at *
                go_wp2
                go_roundw
                case rel => exact ⟨putP Ps (i + 1) Q, i + 1, f2, by omega, by go_num, rfl, HF.out, HRN2.out⟩
                case measure => simp [intOf]; omega
        · obtain rfl : i = ln := by omega
          go_wp2
          go_ret
          exact ⟨rfl, HL.out.bl⟩
end Go.Proofs.YtcdnakbdajbfoaaGreatDoor
