/-
  GameRuns.
-/
import Derived.Test.YtkncfeijlmomaaaGreatDoorLq
namespace Go.Proofs.YtkncfeijlmomaaaGreatDoor
open Go.RowKit Go.Sort Go.Maps
set_option linter.unusedSimpArgs false
set_option linter.unusedVariables false
set_option maxRecDepth 20000

set_option maxHeartbeats 16000000 in
set_option maxRecDepth 100000 in
theorem gameRuns_any (P : Nat → Int) (ap : Option Addr) (n cp : Nat) (f : Nat → Int) (W0 : World) (B : Nat) (he : EN B W0) (hr : Reads W0.heap.size W0 ap n (fun i => .int .i64 (f i))) :
    Calls Tryz.prog 6 #[.agg (pc P).toArray, .slice ap n cp] W0 fun e w' => e = .returned (.bool true) ∧ Below W0.heap.size W0 w' := by
  obtain ⟨X, hX⟩ : ∃ X, X = (pc P).toArray := ⟨_, rfl⟩
  have HI := Lib.hid (show PB (W0.alloc (.cells X 29)) W0.heap.size P ∧ EN B (W0.alloc (.cells X 29)) ∧ Below W0.heap.size W0 (W0.alloc (.cells X 29)) from ⟨by rw [hX]; exact PB.new rfl, he.go (below_new _), below_new _⟩)
  have HX := Lib.hid hX
  have HBW := Lib.hid he.k
  have HR := Lib.hid hr
  have MA := Lib.hid (fun W (h : EN B W) => awake14_any B W h)
  rw [← hX]
  obtain ⟨ps, hps⟩ : ∃ b, posB P = b := ⟨_, rfl⟩
  clear hX he hr
  go_enter Tryz.func6, Tryz.ntmps6
  go_upto_region 1 with (fail)
  generalize W0.alloc (.cells X 29) = w1 at *
  go_wp2_with fail
  refine (MA.out _ HI.out.2.1).mono ?_
  rintro e w2 ⟨rfl, hb⟩
  replace HI := Lib.hid (show PB w2 W0.heap.size P ∧ EN B w2 ∧ Below W0.heap.size W0 w2 from ⟨HI.out.1.go hb, HI.out.2.1.go hb, HI.out.2.2.trans (hb.mono HI.out.2.2.size)⟩)
  clear hb MA
  dsimp only
  refine list_go (by assumption) ?_
  by_cases h30 : 30 < n
  · have h31 : (30 : Int) < (n : Int) := by omega
    go_wp2
    go_ret
    exact ⟨rfl, HI.out.2.2⟩
  · have h31 : ¬ (30 : Int) < (n : Int) := by omega
    have HLN := Lib.hid (show n ≤ 30 by omega)
    clear h30
    have MQ := Lib.hid (fun W (h : EN B W) => position_any P W B h.gb h.gs h.gm h.gp h.k)
    rw [hps, ← HX.out] at MQ
    cases ps
    · have MF := Lib.hid (fun W (h : EN B W) => gfrom_no B P hps W h)
      rw [← HX.out] at MF
      clear hps
      go_wp2_with (first | refine wpList_pos (by rfl) _ (by rfl) W0.heap.size P X HX.out (by rfl) HI.out.1 ?_ | fail)
      refine (MF.out _ HI.out.2.1).mono ?_
      rintro e w3 ⟨rfl, hb⟩
      replace HI := Lib.hid (show PB w3 W0.heap.size P ∧ EN B w3 ∧ Below W0.heap.size W0 w3 from ⟨HI.out.1.go hb, HI.out.2.1.go hb, HI.out.2.2.trans (hb.mono HI.out.2.2.size)⟩)
      clear hb MF
      dsimp only
      refine list_go (by assumption) ?_
      go_wp2_with (first | refine wpList_pos (by rfl) _ (by rfl) W0.heap.size P X HX.out (by rfl) HI.out.1 ?_ | fail)
      refine (MQ.out _ HI.out.2.1).mono ?_
      rintro e w4 ⟨rfl, hb⟩
      dsimp only
      refine list_go (by assumption) ?_
      go_wp2
      go_ret
      exact ⟨rfl, HI.out.2.2.trans (hb.mono HI.out.2.2.size)⟩
    · have MF := Lib.hid (fun W (h : EN B W) => gfrom_any B P hps W h)
      have HPS := Lib.hid hps
      rw [← HX.out] at MF
      clear hps
      go_wp2_with (first | refine wpList_pos (by rfl) _ (by rfl) W0.heap.size P X HX.out (by rfl) HI.out.1 ?_ | fail)
      refine (MF.out _ HI.out.2.1).mono ?_
      rintro e w3 ⟨gb, b, mb, rfl, hm, hb⟩
      obtain ⟨g, hg⟩ : ∃ g, (gz gb b mb).comes P = g := ⟨_, rfl⟩
      have HG0 := Lib.hid (show g.gb = gb ∧ Gis g g.core g.L ∧ g.core = coB P ∧ g.L = [] ∧ g.T = [kyB P] ∧ g.P = P by
        rw [← hg]
        have q := gz_is gb b mb P HPS.out
        refine ⟨rfl, ⟨rfl, rfl, q.p, q.t⟩, q.a, rfl, rfl, rfl⟩)
      rw [hg] at hm
      have HM := Lib.hid hm
      have HB0 := Lib.hid (show Below W0.heap.size W0 w2 ∧ W0.heap.size ≤ w2.heap.size ∧ B ≤ w2.heap.size ∧ W0.heap.size < w2.heap.size from ⟨HI.out.2.2, HI.out.2.2.size, Nat.le_trans HBW.out HI.out.2.2.size, HI.out.1.lt⟩)
      have HRB := Lib.hid ((HR.out.below HI.out.2.2).mono HI.out.2.2.size)
      have HBL := Lib.hid hb
      replace HI := Lib.hid (show PB w3 W0.heap.size P ∧ EN B w3 from ⟨HI.out.1.go hb, HI.out.2.1.go hb⟩)
      clear hb hm hg MF HR
      dsimp only
      refine list_go (by assumption) ?_
      go_wp2_with (first | refine wpList_pos (by rfl) _ (by rfl) W0.heap.size P X HX.out (by rfl) HI.out.1 ?_ | fail)
      refine (MQ.out _ HI.out.2).mono ?_
      rintro e w4 ⟨rfl, hb⟩
      replace HI := Lib.hid (show PB w4 W0.heap.size P ∧ EN B w4 ∧ GW w2.heap.size g w4 ∧ Below w2.heap.size w2 w4 ∧ w3.heap.size ≤ w4.heap.size from ⟨HI.out.1.go hb, HI.out.2.go hb, HM.out.go hb, HBL.out.trans (hb.mono HBL.out.size), hb.size⟩)
      have HGX := Lib.hid (fun q (hq : g.X q) => (HM.out.ltX q hq).2)
      clear hb MQ HM
      have MB := Lib.hid (fun W (h : EN B W) => gnewbook_any B W h)
      dsimp only
      refine list_go (by assumption) ?_
      go_wp2_with fail
      refine (MB.out _ HI.out.2.1).mono ?_
      rintro e w5 ⟨bb, mbb, rfl, hk, hb, hb1, hb2⟩
      have HK := Lib.hid (show BW w5 bb mbb [] ∧ w4.heap.size ≤ bb ∧ w4.heap.size ≤ mbb from ⟨hk, hb1, hb2⟩)
      replace HI := Lib.hid (show PB w5 W0.heap.size P ∧ EN B w5 ∧ GW w2.heap.size g w5 ∧ Below w2.heap.size w2 w5 ∧ w3.heap.size ≤ w4.heap.size ∧ w2.heap.size ≤ w5.heap.size from ⟨HI.out.1.go hb, HI.out.2.1.go hb, HI.out.2.2.1.go hb, HI.out.2.2.2.1.trans (hb.mono (Nat.le_trans HBL.out.size HI.out.2.2.2.2)), HI.out.2.2.2.2, Nat.le_trans HBL.out.size (Nat.le_trans HI.out.2.2.2.2 hb.size)⟩)
      clear hk hb hb1 hb2 MB
      dsimp only
      refine list_go (by assumption) ?_
      go_upto_region 11 with (fail)
      refine wp_region_lit ?_
      refine wpList_pos (by rfl) _ (by rfl) W0.heap.size P X HX.out (by rfl) HI.out.1 ?_
      refine wpList_newP X P HX.out (by rfl) (by rfl) (fun w6 hp hb hsz => ?_)
      obtain ⟨ab, hab⟩ : ∃ b, w5.heap.size = b := ⟨_, rfl⟩
      rw [hab] at hp ⊢
      have HU := Lib.hid (show GU B w2.heap.size bb mbb ab W0.heap.size [] (.slice none 0 0) P g w2 w6 from
        ⟨HI.out.2.2.1.go hb, HK.out.1.go hb, by rw [HG0.out.2.2.2.2.2]; exact hp, HI.out.1.go hb, by rw [HG0.out.2.2.2.1]; exact World.ownsRow_nil _ _ _ _, HI.out.2.2.2.1.trans (hb.mono HI.out.2.2.2.2.2), HI.out.2.1.go hb, Nat.le_trans HI.out.2.2.2.2.2 hb.size,
          fun q hq => by
            have h1 := HGX.out q hq
            have h2 := HK.out.2
            have h3 := HI.out.2.2.2.2.1
            have h4 := HK.out.1.ltb
            refine ⟨by omega, by omega, by omega, by intro e; cases e⟩, by
            have h4 := HK.out.1.ltb
            have h5 := HK.out.1.m.lt
            omega, fun q hq => (by cases hq), by
            have h1 := HBL.out.size
            have h2 := HK.out.2
            have h3 := HI.out.2.2.2.2
            have h4 := HB0.out
            omega⟩)
      have HG := Lib.hid (show g.gb = gb ∧ Gis g (coL P g.L) g.L ∧ okP P g.L ∧ g.L.length = 0 ∧ g.T = kyB g.P :: [] from ⟨HG0.out.1, by
          have h := HG0.out.2.1
          rw [HG0.out.2.2.1, HG0.out.2.2.2.1] at h
          rw [HG0.out.2.2.2.1]; exact h, by rw [HG0.out.2.2.2.1]; exact okP_nil P, by rw [HG0.out.2.2.2.1]; rfl, by rw [HG0.out.2.2.2.2.1, HG0.out.2.2.2.2.2]⟩)
      clear hp hb hsz hab HI HK HBL HGX HG0
      show Exit.then _ _ Exit.normal _ _
      go_wp2
      go_loopw [9, 10] (fun s9 v wr => ∃ (i : Nat) (g : Gm) (T : List (List UInt8)) (rv : Value), rv = s9 ∧ i ≤ n ∧ v = .int .i64 (i : Int) ∧ (g.gb = gb ∧ Gis g (coL P g.L) g.L ∧ okP P g.L ∧ g.L.length = i ∧ g.T = kyB g.P :: T) ∧ GU B w2.heap.size bb mbb ab W0.heap.size T rv P g w2 wr) (fun _ v _ => n - (intOf v).toNat)
      case atStart => exact ⟨0, g, [], _, rfl, Nat.zero_le _, rfl, HG.out, HU.out⟩
      case round =>
        clear HG HU
        obtain ⟨i, g, T, rv, rfl, hi, rfl, h1, h2⟩ := hrel
        have HG := Lib.hid h1
        have HU := Lib.hid h2
        clear h1 h2
        have HC := Lib.hid (show g.n = cntT g.T (kyB g.P) ∧ g.r = endR g.P g.n ∧ g.y = endY g.P g.n from by
          have h := coW_run P g.L
          rw [← HG.out.2.1.a] at h
          exact h)
        have HLL := Lib.hid (show g.n ≤ 1000000 ∧ g.L.length ≤ 100 ∧ T.length ≤ 100 from by
          have h1 := HG.out.2.1.t
          have h2 := HG.out.2.2.2.1
          have h3 := HLN.out
          have h4 := HC.out.1
          have h5 := cntT_le g.T (kyB g.P)
          have h6 := congrArg List.length HG.out.2.2.2.2
          rw [List.length_cons] at h6
          omega)
        have HP := Lib.hid HG.out.2.1.p
        have MPT := Lib.hid (fun W (h : GU B w2.heap.size bb mbb ab W0.heap.size T rv P g w2 W) => put_any12 B bb mbb T g.P (right_in (pos_parts g.P HP.out).1) (by have := HLL.out; omega) W h.k h.e)
        rw [← HG.out.2.2.2.2, ← HC.out.1] at MPT
        have MOF := Lib.hid (fun W (h : GU B w2.heap.size bb mbb ab W0.heap.size g.T rv P g w2 W) => of_any g.P W B h.e.gb h.e.gs h.e.gm h.e.gp h.e.k)
        have MDD := Lib.hid (fun W => is13_any g.P W)
        have MSV := Lib.hid (fun W (h : GU B w2.heap.size bb mbb ab W0.heap.size g.T rv P g w2 W) => seventy_any g.P W B h.e.gb h.e.gs h.e.gm h.e.gp h.e.k)
        have MPO := Lib.hid (fun W (h : GU B w2.heap.size bb mbb ab W0.heap.size g.T rv P g w2 W) => position_any g.P W B h.e.gb h.e.gs h.e.gm h.e.gp h.e.k)
        have MLM := Lib.hid (fun W (h : GU B w2.heap.size bb mbb ab W0.heap.size g.T rv P g w2 W) => lMoves_any g.P W B h.e.gb h.e.gs h.e.gm h.e.gp h.e.k)
        have MR := Lib.hid (fun W (h : GU B w2.heap.size bb mbb ab W0.heap.size g.T rv P g w2 W) => gresult_any w2.heap.size g W h.m)
        have MNW := Lib.hid (fun W (h : GU B w2.heap.size bb mbb ab W0.heap.size g.T rv P g w2 W) => gnow_any w2.heap.size g W h.m)
        have MMV := Lib.hid (fun W (h : GU B w2.heap.size bb mbb ab W0.heap.size g.T rv P g w2 W) => gmoves_any w2.heap.size g (by have := HLL.out; omega) W h.m)
        have hneq := fun w => neq_pos g.P g.P w
        have heql := fun w => eql_pos g.P g.P w
        rw [show posEq g.P g.P = true from posEq_me g.P] at hneq heql
        rw [HG.out.1] at MR MNW MMV
        rw [HP.out] at MPO
        rw [show lmM g.P = legM g.P by unfold lmM; rw [HP.out]; rfl] at MLM
        obtain ⟨Xn, hXn⟩ : ∃ X, X = (pc g.P).toArray := ⟨_, rfl⟩
        have HXN := Lib.hid hXn
        rw [← hXn] at MPT MOF MDD MSV MPO MLM MNW hneq heql
        have HEZ := Lib.hid (end_zero g.P g.n)
        rw [← HC.out.2.1, ← HC.out.2.2] at HEZ
        obtain ⟨x, hx⟩ : ∃ x, ofR g.P = x := ⟨_, rfl⟩
        obtain ⟨xy, hxy⟩ : ∃ x, ofY g.P = x := ⟨_, rfl⟩
        obtain ⟨dd, hdd⟩ : ∃ x, deadB (cntJ g.P 64) = x := ⟨_, rfl⟩
        obtain ⟨sv, hsv⟩ : ∃ x, atB g.P 150 = x := ⟨_, rfl⟩
        rw [hx, hxy, hdd, hsv] at HEZ
        rw [hx, hxy] at MOF
        rw [hdd] at MDD
        rw [hsv] at MSV
        have HTP := Lib.hid (show kyB g.P :: T = g.T from HG.out.2.2.2.2.symm)
        have hi31 : (i : Int) ≤ (n : Int) := by omega
        have hi30 : (i : Int) ≤ 30 := by have := HLN.out; omega
        have hni := HLL.out.1
        clear hXn hx hxy hdd hsv
        go_wp2_with (first | refine wpList_pos (by rfl) _ (by rfl) ab g.P Xn HXN.out (by rfl) HU.out.a ?_ | fail)
        refine (MPT.out _ HU.out).mono ?_
        rintro e w7 ⟨rfl, hk, h2⟩
        replace HU := Lib.hid (HU.out.put hk h2)
        clear hk h2 MPT
        dsimp only
        refine list_go (by assumption) ?_
        go_wp2_with (first | refine wpList_pos (by rfl) _ (by rfl) ab g.P Xn HXN.out (by rfl) HU.out.a ?_ | fail)
        refine (MOF.out _ HU.out).mono ?_
        rintro e w8 ⟨rfl, hb⟩
        replace HU := Lib.hid (HU.out.go hb)
        clear hb MOF
        dsimp only
        refine list_go (by assumption) ?_
        go_upto_region 18 with (fail)
        go_cut [14] from 60 to 73 (fun v14 wx => v14 = .bool (g.r != 0) ∧ GU B w2.heap.size bb mbb ab W0.heap.size g.T rv P g w2 wx)
        case first =>
          have HQ := Lib.hid (fun (b : Bool) (h : g.r = 0 ↔ b = false) => show (Value.bool b) = .bool (g.r != 0) from by
            cases b
            · rw [h.2 rfl]; rfl
            · rw [show (g.r != 0) = true from bne_iff_ne.2 (fun e => by have := h.1 e; cases this)])
          have HEZ2 := Lib.hid HEZ.out.2.1
          clear HEZ MPO MLM MR MNW MMV hneq heql
          by_cases hx : x = 0
          · subst hx
            go_wp2_with (first | refine wpList_pos (by rfl) _ (by rfl) ab g.P Xn HXN.out (by rfl) HU.out.a ?_ | fail)
            refine (MDD.out _).mono ?_
            rintro e w9 ⟨rfl, hb⟩
            replace HU := Lib.hid (HU.out.go hb)
            clear hb MDD
            dsimp only
            refine list_go (by assumption) ?_
            cases dd
            · by_cases h5 : (5 : Int) ≤ (g.n : Int)
              · clear MSV
                go_wp2_with fail
                go_meet
                exact ⟨HQ.out true (by have q : ¬ g.n < 5 := (by omega); rw [HEZ2.out]; simp [q]), HU.out⟩
              · go_wp2_with (first | refine wpList_pos (by rfl) _ (by rfl) ab g.P Xn HXN.out (by rfl) HU.out.a ?_ | fail)
                refine (MSV.out _ HU.out).mono ?_
                rintro e w10 ⟨rfl, hb⟩
                replace HU := Lib.hid (HU.out.go hb)
                clear hb MSV
                dsimp only
                refine list_go (by assumption) ?_
                go_wp2_with fail
                go_meet
                exact ⟨HQ.out sv (by have q : g.n < 5 := (by omega); rw [HEZ2.out]; simp [q]), HU.out⟩
            · clear MSV
              go_wp2_with fail
              go_meet
              exact ⟨HQ.out true (by rw [HEZ2.out]; simp), HU.out⟩
          · have e0 : (x != 0) = true := bne_iff_ne.2 hx
            clear MSV MDD
            go_wp2_with fail
            go_meet
            exact ⟨HQ.out true (by rw [HEZ2.out]; simp [hx]), HU.out⟩
        case rest =>
        obtain ⟨rfl, h1⟩ := hcut
        replace HU := Lib.hid h1
        clear h1 MDD MSV
        go_wp2_with fail
        refine (MR.out _ HU.out).mono ?_
        rintro e w11 ⟨rfl, hb⟩
        replace HU := Lib.hid (HU.out.go hb)
        clear hb
        dsimp only
        refine list_go (by assumption) ?_
        obtain ⟨ov, hov⟩ : ∃ b, (g.r != 0) = b := ⟨_, rfl⟩
        rw [hov]
        go_upto_region 20 with (fail)
        go_cut [123] from 79 to 122 (fun v123 wx => v123 = .bool false ∧ GU B w2.heap.size bb mbb ab W0.heap.size g.T rv P g w2 wx)
        case first =>
          obtain ⟨pv0, cv0, hrv⟩ := own3_shape HU.out.own
          subst hrv
          have HEZ1 := Lib.hid (show (g.r = 0 ↔ g.y = 0) ∧ (x ≠ 0 → g.r = x ∧ g.y = xy) from ⟨HEZ.out.1, HEZ.out.2.2.1⟩)
          clear HEZ MR MLM heql
          by_cases hx : x = 0
          · subst hx
            obtain ⟨t1, ht1⟩ : ∃ t, (g.r == 0) = t := ⟨_, rfl⟩
            have ht2 : (g.y == 0) = t1 := by
              rw [← ht1]
              exact Bool.eq_iff_iff.2 (by rw [beq_iff_eq, beq_iff_eq]; exact HEZ1.out.1.symm)
            clear HEZ1
            refine wp_region_noPanic ?_
            refine wp_region_start (n := 45) (l := #[false, false, false, false, false, false, false, false, false, false, false, false, false, false, false, false, false, false, false, false, false, false, false, false, false, false, false, false, false, false, false, false, false, false, false, false, false, false, false, false, false, false, false, false, false]) (S := (fun W => PB W ab g.P)) (by kernel_rfl) rfl (by kernel_rfl) (by first | exact HU.out.a | exact (HU.out.go (Below.refl _ _).drew).a) (fun hHeld => ?_)
            replace HU := Lib.hid (HU.out.go (Below.refl _ _).drew)
            generalize World.drew _ = V0 at *
            refine tq (i := 0) (d := some 79) rfl rfl ?_
            try simp only [aP, sA, sZ, sS]
            refine og (i := 1) rfl (by kernel_rfl) (fun K hK => ?_)
            go_simp
            refine (MNW.out _ HU.out).mono ?_
            rintro e V ⟨rfl, hb⟩
            replace HU := Lib.hid (HU.out.go hb)
            clear hb
            dsimp only
            refine hK.out _ _ (by first | exact HU.out.a | exact (HU.out.go (Below.refl _ _).drew).a) (fun hHeld => ?_)
            clear hK K
            try simp only [aP, sA, sZ, sS]
            refine og (i := 2) rfl (by kernel_rfl) (fun K hK => ?_)
            go_simp
            refine (MPO.out _ HU.out).mono ?_
            rintro e V ⟨rfl, hb⟩
            replace HU := Lib.hid (HU.out.go hb)
            clear hb
            dsimp only
            refine hK.out _ _ (by first | exact HU.out.a | exact (HU.out.go (Below.refl _ _).drew).a) (fun hHeld => ?_)
            clear hK K
            try simp only [aP, sA, sZ, sS]
            refine tq (i := 3) (d := some 82) rfl rfl ?_
            try simp only [aP, sA, sZ, sS]
            refine tq (i := 4) (d := some 83) rfl rfl ?_
            try simp only [aP, sA, sZ, sS]
            refine tq (i := 5) (d := some 84) rfl rfl ?_
            try simp only [aP, sA, sZ, sS]
            refine tg (i := 7) (d := some 86) (v := (.agg Xn)) rfl rfl ?_ ?_
            · exact yields_posC (by rfl) _ (by rfl) ab g.P Xn HXN.out (by rfl) (fun W h => h)
            try simp only [aP, sA, sZ, sS]
            refine og (i := 6) rfl (by kernel_rfl) (fun K hK => ?_)
            go_simp
            refine (MNW.out _ HU.out).mono ?_
            rintro e V ⟨rfl, hb⟩
            replace HU := Lib.hid (HU.out.go hb)
            clear hb
            dsimp only
            refine hK.out _ _ (by first | exact HU.out.a | exact (HU.out.go (Below.refl _ _).drew).a) (fun hHeld => ?_)
            clear hK K
            try simp only [aP, sA, sZ, sS]
            refine tq (i := 8) (d := some 87) rfl rfl ?_
            try simp only [aP, sA, sZ, sS]
            refine tq (i := 9) (d := some 88) rfl rfl ?_
            try simp only [aP, sA, sZ, sS]
            refine tq (i := 10) (d := some 89) rfl rfl ?_
            try simp only [aP, sA, sZ, sS]
            refine tq (i := 11) (d := some 90) rfl rfl ?_
            try simp only [aP, sA, sZ, sS]
            refine tq (i := 14) (d := some 93) rfl rfl ?_
            try simp only [aP, sA, sZ, sS]
            refine tq (i := 15) (d := some 94) rfl rfl ?_
            try simp only [aP, sA, sZ, sS]
            refine og (i := 12) rfl (by kernel_rfl) (fun K hK => ?_)
            go_simp
            refine (MMV.out _ HU.out).mono ?_
            rintro e V ⟨v, rfl, hb, ho⟩
            obtain ⟨pv, cv, rfl⟩ := own3_shape ho
            replace HU := Lib.hid (HU.out.go hb)
            clear hb ho
            dsimp only
            refine hK.out _ _ (by first | exact HU.out.a | exact (HU.out.go (Below.refl _ _).drew).a) (fun hHeld => ?_)
            clear hK K
            try simp only [aP, sA, sZ, sS]
            refine tq (i := 13) (d := some 92) rfl rfl ?_
            try simp only [aP, sA, sZ, sS]
            refine tq (i := 16) (d := some 95) rfl rfl ?_
            try simp only [aP, sA, sZ, sS]
            refine tq (i := 17) (d := some 96) rfl rfl ?_
            try simp only [aP, sA, sZ, sS]
            refine tq (i := 18) (d := some 97) rfl rfl ?_
            try simp only [aP, sA, sZ, sS]
            refine tq (i := 19) (d := some 98) rfl rfl ?_
            try simp only [aP, sA, sZ, sS]
            refine tq (i := 20) (d := some 99) rfl rfl ?_
            try simp only [aP, sA, sZ, sS]
            refine tq (i := 21) (d := some 100) rfl rfl ?_
            try simp only [aP, sA, sZ, sS]
            refine tq (i := 22) (d := some 101) rfl rfl ?_
            try simp only [aP, sA, sZ, sS]
            refine tq (i := 23) (d := some 102) rfl rfl ?_
            try simp only [aP, sA, sZ, sS]
            refine tq (i := 24) (d := some 103) rfl rfl ?_
            try simp only [aP, sA, sZ, sS]
            refine tq (i := 25) (d := some 104) rfl rfl ?_
            try simp only [aP, sA, sZ, sS]
            refine tq (i := 26) (d := some 105) rfl rfl ?_
            try simp only [aP, sA, sZ, sS]
            refine tq (i := 27) (d := some 106) rfl rfl ?_
            try simp only [aP, sA, sZ, sS]
            refine tg (i := 28) (d := some 107) (v := undef) rfl rfl (Or.inr ⟨by rfl, rfl⟩) ?_
            try simp only [aP, sA, sZ, sS]
            refine tg (i := 29) (d := some 108) (v := undef) rfl rfl (Or.inr ⟨by rfl, rfl⟩) ?_
            try simp only [aP, sA, sZ, sS]
            refine tg (i := 30) (d := some 109) (v := undef) rfl rfl (Or.inr ⟨by rfl, rfl⟩) ?_
            try simp only [aP, sA, sZ, sS]
            refine tg (i := 31) (d := some 110) (v := undef) rfl rfl (Or.inr ⟨by rfl, rfl⟩) ?_
            try simp only [aP, sA, sZ, sS]
            refine tg (i := 32) (d := some 111) (v := undef) rfl rfl (Or.inr ⟨by rfl, rfl⟩) ?_
            try simp only [aP, sA, sZ, sS]
            refine tg (i := 33) (d := some 112) (v := undef) rfl rfl (Or.inr ⟨by rfl, rfl⟩) ?_
            try simp only [aP, sA, sZ, sS]
            refine tg (i := 34) (d := some 113) (v := undef) rfl rfl (Or.inr ⟨by rfl, rfl⟩) ?_
            try simp only [aP, sA, sZ, sS]
            refine tg (i := 35) (d := some 114) (v := undef) rfl rfl (Or.inr ⟨by rfl, rfl⟩) ?_
            try simp only [aP, sA, sZ, sS]
            refine tq (i := 36) (d := some 115) rfl rfl ?_
            try simp only [aP, sA, sZ, sS]
            refine tq (i := 37) (d := some 116) rfl rfl ?_
            try simp only [aP, sA, sZ, sS]
            refine tq (i := 38) (d := some 117) rfl rfl ?_
            try simp only [aP, sA, sZ, sS]
            refine tq (i := 39) (d := some 118) rfl rfl ?_
            try simp only [aP, sA, sZ, sS]
            refine tq (i := 40) (d := some 119) rfl rfl ?_
            try simp only [aP, sA, sZ, sS]
            refine tq (i := 41) (d := some 120) rfl rfl ?_
            try simp only [aP, sA, sZ, sS]
            refine tq (i := 42) (d := some 121) rfl rfl ?_
            try simp only [aP, sA, sZ, sS]
            refine tq (i := 43) (d := some 122) rfl rfl ?_
            try simp only [aP, sA, sZ, sS]
            refine tq (i := 44) (d := some 123) rfl rfl ?_
            try simp only [aP, sA, sZ, sS]
            refine wpAnyH_done (by kernel_rfl) ?_ _
            refine NoPanic.normal ?_
            clear hHeld
            go_wp2_with fail
            go_meet
            exact ⟨by rfl, HU.out⟩
          · obtain ⟨a1, a2⟩ := HEZ1.out.2 hx
            have e0 : (x != 0) = true := bne_iff_ne.2 hx
            have e3 : (g.r != 0) = true := bne_iff_ne.2 (by rw [a1]; exact hx)
            obtain rfl : true = ov := e3.symm.trans hov
            clear hov
            have e4 : (g.r != x) = false := by rw [a1]; exact bne_self_eq_false _
            have e5 : (g.y != xy) = false := by rw [a2]; exact bne_self_eq_false _
            have e6 : (g.r == 0) = false := beq_eq_false_iff_ne.2 (by rw [a1]; exact hx)
            have e7 : (g.y == 0) = false := beq_eq_false_iff_ne.2 (fun e => hx (by rw [← a1]; exact HEZ1.out.1.2 e))
            clear HEZ1 hx a1 a2
            refine wp_region_noPanic ?_
            refine wp_region_start (n := 45) (l := #[false, false, false, false, false, false, false, false, false, false, false, false, false, false, false, false, false, false, false, false, false, false, false, false, false, false, false, false, false, false, false, false, false, false, false, false, false, false, false, false, false, false, false, false, false]) (S := (fun W => PB W ab g.P)) (by kernel_rfl) rfl (by kernel_rfl) (by first | exact HU.out.a | exact (HU.out.go (Below.refl _ _).drew).a) (fun hHeld => ?_)
            replace HU := Lib.hid (HU.out.go (Below.refl _ _).drew)
            generalize World.drew _ = V0 at *
            refine tq (i := 0) (d := some 79) rfl rfl ?_
            try simp only [aP, sA, sZ, sS]
            refine og (i := 1) rfl (by kernel_rfl) (fun K hK => ?_)
            go_simp
            refine (MNW.out _ HU.out).mono ?_
            rintro e V ⟨rfl, hb⟩
            replace HU := Lib.hid (HU.out.go hb)
            clear hb
            dsimp only
            refine hK.out _ _ (by first | exact HU.out.a | exact (HU.out.go (Below.refl _ _).drew).a) (fun hHeld => ?_)
            clear hK K
            try simp only [aP, sA, sZ, sS]
            refine og (i := 2) rfl (by kernel_rfl) (fun K hK => ?_)
            go_simp
            refine (MPO.out _ HU.out).mono ?_
            rintro e V ⟨rfl, hb⟩
            replace HU := Lib.hid (HU.out.go hb)
            clear hb
            dsimp only
            refine hK.out _ _ (by first | exact HU.out.a | exact (HU.out.go (Below.refl _ _).drew).a) (fun hHeld => ?_)
            clear hK K
            try simp only [aP, sA, sZ, sS]
            refine tq (i := 3) (d := some 82) rfl rfl ?_
            try simp only [aP, sA, sZ, sS]
            refine tq (i := 4) (d := some 83) rfl rfl ?_
            try simp only [aP, sA, sZ, sS]
            refine tq (i := 5) (d := some 84) rfl rfl ?_
            try simp only [aP, sA, sZ, sS]
            refine tg (i := 7) (d := some 86) (v := (.agg Xn)) rfl rfl ?_ ?_
            · exact yields_posC (by rfl) _ (by rfl) ab g.P Xn HXN.out (by rfl) (fun W h => h)
            try simp only [aP, sA, sZ, sS]
            refine og (i := 6) rfl (by kernel_rfl) (fun K hK => ?_)
            go_simp
            refine (MNW.out _ HU.out).mono ?_
            rintro e V ⟨rfl, hb⟩
            replace HU := Lib.hid (HU.out.go hb)
            clear hb
            dsimp only
            refine hK.out _ _ (by first | exact HU.out.a | exact (HU.out.go (Below.refl _ _).drew).a) (fun hHeld => ?_)
            clear hK K
            try simp only [aP, sA, sZ, sS]
            refine tq (i := 8) (d := some 87) rfl rfl ?_
            try simp only [aP, sA, sZ, sS]
            refine tq (i := 9) (d := some 88) rfl rfl ?_
            try simp only [aP, sA, sZ, sS]
            refine tq (i := 10) (d := some 89) rfl rfl ?_
            try simp only [aP, sA, sZ, sS]
            refine tq (i := 11) (d := some 90) rfl rfl ?_
            try simp only [aP, sA, sZ, sS]
            refine tq (i := 14) (d := some 93) rfl rfl ?_
            try simp only [aP, sA, sZ, sS]
            refine tq (i := 15) (d := some 94) rfl rfl ?_
            try simp only [aP, sA, sZ, sS]
            refine og (i := 12) rfl (by kernel_rfl) (fun K hK => ?_)
            go_simp
            refine (MMV.out _ HU.out).mono ?_
            rintro e V ⟨v, rfl, hb, ho⟩
            obtain ⟨pv, cv, rfl⟩ := own3_shape ho
            replace HU := Lib.hid (HU.out.go hb)
            clear hb ho
            dsimp only
            refine hK.out _ _ (by first | exact HU.out.a | exact (HU.out.go (Below.refl _ _).drew).a) (fun hHeld => ?_)
            clear hK K
            try simp only [aP, sA, sZ, sS]
            refine tq (i := 13) (d := some 92) rfl rfl ?_
            try simp only [aP, sA, sZ, sS]
            refine tq (i := 16) (d := some 95) rfl rfl ?_
            try simp only [aP, sA, sZ, sS]
            refine tq (i := 17) (d := some 96) rfl rfl ?_
            try simp only [aP, sA, sZ, sS]
            refine tq (i := 18) (d := some 97) rfl rfl ?_
            try simp only [aP, sA, sZ, sS]
            refine tq (i := 19) (d := some 98) rfl rfl ?_
            try simp only [aP, sA, sZ, sS]
            refine tq (i := 20) (d := some 99) rfl rfl ?_
            try simp only [aP, sA, sZ, sS]
            refine tq (i := 21) (d := some 100) rfl rfl ?_
            try simp only [aP, sA, sZ, sS]
            refine tq (i := 22) (d := some 101) rfl rfl ?_
            try simp only [aP, sA, sZ, sS]
            refine tq (i := 23) (d := some 102) rfl rfl ?_
            try simp only [aP, sA, sZ, sS]
            refine tq (i := 24) (d := some 103) rfl rfl ?_
            try simp only [aP, sA, sZ, sS]
            refine tq (i := 25) (d := some 104) rfl rfl ?_
            try simp only [aP, sA, sZ, sS]
            refine tq (i := 26) (d := some 105) rfl rfl ?_
            try simp only [aP, sA, sZ, sS]
            refine tq (i := 27) (d := some 106) rfl rfl ?_
            try simp only [aP, sA, sZ, sS]
            refine tq (i := 28) (d := some 107) rfl rfl ?_
            try simp only [aP, sA, sZ, sS]
            refine tq (i := 29) (d := some 108) rfl rfl ?_
            try simp only [aP, sA, sZ, sS]
            refine tq (i := 30) (d := some 109) rfl rfl ?_
            try simp only [aP, sA, sZ, sS]
            refine tq (i := 31) (d := some 110) rfl rfl ?_
            try simp only [aP, sA, sZ, sS]
            refine tq (i := 32) (d := some 111) rfl rfl ?_
            try simp only [aP, sA, sZ, sS]
            refine tq (i := 33) (d := some 112) rfl rfl ?_
            try simp only [aP, sA, sZ, sS]
            refine tq (i := 34) (d := some 113) rfl rfl ?_
            try simp only [aP, sA, sZ, sS]
            refine tq (i := 35) (d := some 114) rfl rfl ?_
            try simp only [aP, sA, sZ, sS]
            refine tq (i := 36) (d := some 115) rfl rfl ?_
            try simp only [aP, sA, sZ, sS]
            refine tq (i := 37) (d := some 116) rfl rfl ?_
            try simp only [aP, sA, sZ, sS]
            refine tq (i := 38) (d := some 117) rfl rfl ?_
            try simp only [aP, sA, sZ, sS]
            refine tq (i := 39) (d := some 118) rfl rfl ?_
            try simp only [aP, sA, sZ, sS]
            refine tq (i := 40) (d := some 119) rfl rfl ?_
            try simp only [aP, sA, sZ, sS]
            refine tq (i := 41) (d := some 120) rfl rfl ?_
            try simp only [aP, sA, sZ, sS]
            refine tq (i := 42) (d := some 121) rfl rfl ?_
            try simp only [aP, sA, sZ, sS]
            refine tq (i := 43) (d := some 122) rfl rfl ?_
            try simp only [aP, sA, sZ, sS]
            refine tq (i := 44) (d := some 123) rfl rfl ?_
            try simp only [aP, sA, sZ, sS]
            refine wpAnyH_done (by kernel_rfl) ?_ _
            refine NoPanic.normal ?_
            clear hHeld
            go_wp2_with fail
            go_meet
            exact ⟨by rfl, HU.out⟩
        case rest =>
        obtain ⟨rfl, h1⟩ := hcut
        replace HU := Lib.hid h1
        clear h1 MPO MMV
        go_wp2_with (first | refine wpList_pos (by rfl) _ (by rfl) ab g.P Xn HXN.out (by rfl) HU.out.a ?_ | fail)
        refine (MLM.out _ HU.out).mono ?_
        rintro e w12 ⟨v, rfl, hb, hl⟩
        obtain ⟨pl, cl, hv, hrl⟩ := reads3_own hl
        have HRL := Lib.hid hrl
        clear hrl
        have HLM := Lib.hid (legM_len g.P)
        replace HU := Lib.hid (HU.out.go hb)
        have hll := legM_len g.P
        obtain ⟨ll, hll2⟩ : ∃ l, (legM g.P).length = l := ⟨_, rfl⟩
        rw [hll2] at hll hv
        have HL2 := Lib.hid hll2
        clear hb hl MLM hll2
        subst hv
        dsimp only
        refine list_go (by assumption) ?_
        go_upto_region 23 with (fail)
        obtain ⟨br, hbr⟩ : ∃ b, (ov || ((ll : Int) == 0 || (i : Int) == (n : Int))) = b := ⟨_, rfl⟩
        go_cut [137] from 126 to 136 (fun v137 wx => v137 = .bool br ∧ wx = w12)
        case first =>
          cases ov
          · simp only [Bool.false_or] at hbr
            cases e1 : ((ll : Int) == 0)
            · cases e2 : ((i : Int) == (n : Int))
              · rw [e1, e2] at hbr
                subst hbr
                go_wp2_with fail
                go_meet
                exact ⟨by rfl, rfl⟩
              · rw [e1, e2] at hbr
                subst hbr
                go_wp2_with fail
                go_meet
                exact ⟨by rfl, rfl⟩
            · rw [e1] at hbr
              subst hbr
              go_wp2_with fail
              go_meet
              exact ⟨by rfl, rfl⟩
          · obtain rfl : br = true := by rw [← hbr]; rfl
            clear hbr
            go_wp2_with fail
            go_meet
            exact ⟨by rfl, rfl⟩
        case rest =>
        obtain ⟨rfl, rfl⟩ := hcut
        cases br
        · have hbf := hbr
          simp only [Bool.or_eq_false_iff, beq_eq_false_iff_ne] at hbf
          obtain ⟨hov0, hl0, hin⟩ := hbf
          subst hov0
          have hr0 : g.r = 0 := by simpa using hov
          have hlt : i < n := by omega
          have hl1 : 0 < ll := by omega
          clear hbr hov
          have hrd := HRB.out.below HU.out.bl
          obtain ⟨pkb, pko, hap, hpk⟩ : ∃ b o, ap = some ⟨b, o, none⟩ ∧ wc.cell? ⟨b, o + i, none⟩ = some (.int .i64 (f i)) := by
            rcases hrd with h0 | ⟨b', o', e, _, hc⟩
            · omega
            · exact ⟨b', o', e, hc i hlt⟩
          subst hap
          obtain ⟨jm, hjm, hjl⟩ : ∃ j : Nat, f i % (ll : Int) = (j : Int) ∧ j < ll := by
            have h1 := Int.emod_nonneg (f i) (show (ll : Int) ≠ 0 by omega)
            have h2 := Int.emod_lt_of_pos (f i) (show (0 : Int) < (ll : Int) by omega)
            exact ⟨(f i % (ll : Int)).toNat, by omega, by omega⟩
          have MPK := Lib.hid (fun W => pick12_any (f i) (ll : Int) (by omega) (by omega) W)
          rw [hjm] at MPK
          obtain ⟨s, tt, k, es, et, ek, _, hmem⟩ := leg_at12 g.P HP.out jm (by rw [HL2.out]; exact hjl)
          have HLG := Lib.hid (show legB g.P (s : Int) (tt : Int) k = true from (legB_iff g.P _ _ _).2 (hmem ▸ List.getElem_mem _))
          obtain ⟨plb, plo, hpl⟩ := HRL.out.addr (i := jm) (by rw [HL2.out]; exact hjl)
          subst hpl
          obtain ⟨q0, q1, q2⟩ := HRL.out.cells (i := jm) (by rw [HL2.out]; exact hjl)
          rw [es] at q0
          rw [et] at q1
          rw [ek] at q2
          have j0 : (0 : Int) ≤ (jm : Int) := by omega
          have j1 : (jm : Int) < (ll : Int) := by omega
          have i0 : (0 : Int) ≤ (i : Int) := by omega
          have i1 : (i : Int) < (n : Int) := by omega
          obtain ⟨m1, hm1⟩ : ∃ m : Int, (s : Int) = m := ⟨_, rfl⟩
          obtain ⟨m2, hm2⟩ : ∃ m : Int, (tt : Int) = m := ⟨_, rfl⟩
          rw [hm1] at q0 HLG
          rw [hm2] at q1 HLG
          have HI1 := Lib.hid i1
          clear hrd hjm hjl hmem es et ek hm1 hm2 hlt
          go_wp2_with fail
          refine (MPK.out _).mono ?_
          rintro e w13 ⟨rfl, rfl⟩
          clear MPK
          dsimp only
          refine list_go (by assumption) ?_
          go_upto_region 25 with (fail)
          clear q0 q1 q2 hpk j0 j1
          have HMX := Lib.hid (show ¬ g.X wc.heap.size from fun hx => Nat.lt_irrefl _ (HU.out.m.ltX _ hx).2)
          refine forget_B (fun W => GU B w2.heap.size bb mbb ab W0.heap.size g.T rv P g w2 W ∧ W.heap[wc.heap.size]? = some (.cells #[.int .i64 m1, .int .i64 m2, .int .i64 k] 46 (0, 0))) ⟨HU.out.go (below_new _), sl_at rfl⟩ ?_
          rintro w14 ⟨h1, h2⟩
          replace HU := Lib.hid h1
          have HBX := Lib.hid h2
          clear h1 h2
          have HMB := Lib.hid (show ∃ mb, wc.heap.size = mb from ⟨_, rfl⟩)
          obtain ⟨mb, hmb⟩ := HMB.out
          rw [hmb] at HBX HMX ⊢
          clear HMB hmb HRL
          have MP := Lib.hid (fun W R (h : GU B w2.heap.size bb mbb ab W0.heap.size g.T rv P g w2 W) (hr : W.heap[R]? = some (.cells #[.int .i64 m1, .int .i64 m2, .int .i64 k] 46 (0, 0))) (hx : ¬ g.X R) => gplay_any B w2.heap.size g (coL P g.L) g.L (fun _ => m1) (fun _ => m2) (fun _ => k) (some ⟨R, 0, none⟩) 1 1 (by omega) (by have := HLL.out; omega) HG.out.2.1 W h.m h.e h.sz h.lo.2.2.2.2 (one_row14 hr) (fun b o e => by cases e; exact hx))
          have hco : coE (coL P g.L) g.L.length (m1, m2, k) = 0 := co_ok (m := (m1, m2, k)) (by rw [← HG.out.2.1.a]; exact hr0) (by have := HLL.out; omega) (by rw [← HG.out.2.1.a]; exact HLG.out)
          have HOK := Lib.hid (show okP P (g.L ++ [(m1, m2, k)]) from okP_snoc HG.out.2.2.1 (by rw [← HG.out.2.1.a]; exact hr0) (by rw [← HG.out.2.1.a]; exact HLG.out))
          rw [(py1 (coL P g.L) g.L m1 m2 k).1 hco, HG.out.1] at MP
          clear hco hr0
          obtain ⟨z0, z1, z2, _, _⟩ := row3 HBX.out
          go_wp2_with fail
          have HNX := Lib.hid (show ¬ g.X w14.heap.size from fun hx => Nat.lt_irrefl _ (HU.out.m.ltX _ hx).2)
          refine (MP.out _ _ (HU.out.go (below_new _)) (sl_at rfl) HNX.out).mono ?_
          rintro e w15 ⟨g', rfl, hs, hi⟩
          have hi : Gis g' (coN (coL P g.L) (m1, m2, k)) (g.L ++ [(m1, m2, k)]) := hi
          rw [← coL_snoc] at hi
          have HG2 := Lib.hid (show g'.gb = gb ∧ Gis g' (coL P g'.L) g'.L ∧ okP P g'.L ∧ g'.L.length = i + 1 ∧ g'.T = kyB g'.P :: g.T ∧ g'.L = g.L ++ [(m1, m2, k)] ∧ g'.P = (coL P g'.L).1 from by
            have hL := hi.l
            refine ⟨hs.s.1.trans HG.out.1, by rw [hL]; exact ⟨hi.a, hi.l, hi.p, hi.t⟩, by rw [hL]; exact HOK.out, by rw [hL, List.length_append, HG.out.2.2.2.1]; rfl, ?_, hL, by rw [hL]; exact congrArg (fun A : GCore => A.1) hi.a⟩
            have h1 : g'.T = (coL P (g.L ++ [(m1, m2, k)])).2.1 := congrArg (fun A : GCore => A.2.1) hi.a
            have h2 : g'.P = (coL P (g.L ++ [(m1, m2, k)])).1 := congrArg (fun A : GCore => A.1) hi.a
            have h3 : g.T = (coL P g.L).2.1 := congrArg (fun A : GCore => A.2.1) HG.out.2.1.a
            rw [h1, h2, coL_snoc, coW_next2, h3])
          have HBX2 := Lib.hid (show w15.heap[mb]? = some (.cells #[.int .i64 m1, .int .i64 m2, .int .i64 k] 46 (0, 0)) from hs.c.at (sl_go HBX.out (below_new _)) HMX.out)
          have HV := Lib.hid ((HU.out.go (below_new (.cells #[.int .i64 m1, .int .i64 m2, .int .i64 k] 46))).step hs)
          clear hs hi MP HNX HBX HU z0 z1 z2
          dsimp only
          refine list_go (by assumption) ?_
          obtain ⟨z0, z1, z2, _, _⟩ := row3 HBX2.out
          go_wp2_with (at_builtin; refine wpList_plain rfl (fun K hK => ?_); refine wp_append_move _ _ rfl w2.heap.size rv g.L m1 m2 k w15.heap.size 1 (by rfl) (HV.out.go (below_new (.cells #[.int .i64 m1, .int .i64 m2, .int .i64 k] 46))).own (by rfl) (sl_at rfl) (by have := HLL.out; omega) (HV.out.go (below_new (.cells #[.int .i64 m1, .int .i64 m2, .int .i64 k] 46))).sz ?_)
          intro v' w16 ho hg hat
          refine hK _ _ ?_
          clear hK K
          have HW := Lib.hid ((HV.out.go (below_new (.cells #[.int .i64 m1, .int .i64 m2, .int .i64 k] 46))).app (L' := g'.L) (by rw [HG2.out.2.2.2.2.2.1, List.length_append]; exact ho) hg (by simpa using hat))
          clear ho hg hat HV z0 z1 z2 HBX2 HMX
          obtain ⟨pr, cr, hvr, hrr⟩ := reads3_own HW.out.own
          subst hvr
          obtain ⟨e1, e2⟩ := ok_pl HPS.out HG2.out.2.2.1
          have MPL := Lib.hid (fun W (h : EN B W) (hr : Reads3 W.heap.size W pr g'.L.length (mF g'.L) (mT g'.L) (mK g'.L)) => lPlay_any P (mF g'.L) (mT g'.L) (mK g'.L) pr g'.L.length cr (by have := HG2.out.2.2.2.1; have := HLN.out; omega) W B h.gb h.gs h.gm h.gp h.k hr)
          rw [e1, e2, ← HG2.out.2.2.2.2.2.2, ← HX.out] at MPL
          obtain ⟨Xq, hXq⟩ : ∃ X, X = (pc g'.P).toArray := ⟨_, rfl⟩
          have HXQ := Lib.hid hXq
          rw [← hXq] at MPL
          have HRR := Lib.hid hrr
          clear e1 e2 hXq hrr
          go_wp2_with (first | refine wpList_pos (by rfl) _ (by rfl) W0.heap.size P X HX.out (by rfl) HW.out.p ?_ | fail)
          refine (MPL.out _ HW.out.e HRR.out).mono ?_
          rintro e w17 ⟨rfl, hb⟩
          replace HW := Lib.hid (HW.out.go hb)
          clear hb MPL HRR
          dsimp only
          refine list_go (by assumption) ?_
          iterate 3 (refine wpList_plain rfl (fun K hK => ?_); go_simp; refine hK _ _ ?_; clear hK K)
          refine wpList_newP Xq g'.P HXQ.out (by rfl) (by rfl) (fun w18 hp hb hsz => ?_)
          replace HW := Lib.hid (HW.out.go hb)
          generalize w17.heap.size = qb at *
          have HQB := Lib.hid hp
          clear hp hb hsz
          refine wpList_plain rfl (fun K hK => ?_)
          go_simp
          refine hK _ _ ?_
          clear hK K
          show Exit.then _ _ Exit.normal _ _
          go_upto_region 31 with (fail)
          refine wp_region_lit ?_
          refine wpList_pos (by rfl) _ (by rfl) qb g'.P Xq HXQ.out (by rfl) HQB.out ?_
          refine wpList_store_mid rfl 29 _ _ rfl ab 0 Xq rfl rfl (by rw [HXQ.out, pc_size]; exact HW.out.a.there) (by rw [infoPos, HXQ.out, pc_size]) (by rw [HXQ.out]; exact pc_one _) ?_
          rw [show Xq.toList = pc g'.P by rw [HXQ.out]]
          have HF := Lib.hid HW.out.at'
          generalize w18.setCells ab 0 (pc g'.P) = w19 at *
          clear HW HQB
          have i1 := HI1.out
          go_wp2
          go_roundw
          case rel => exact ⟨i + 1, g', g.T, _, rfl, by omega, by go_num, ⟨HG2.out.1, HG2.out.2.1, HG2.out.2.2.1, HG2.out.2.2.2.1, HG2.out.2.2.2.2.1⟩, HF.out⟩
          case measure => simp [intOf]; omega
        · clear hbr HRL HL2
          have HFB := Lib.hid (fun W (b : Below w2.heap.size w2 W) => show Below W0.heap.size W0 W from HB0.out.1.trans (b.mono HB0.out.2.1))
          have MFR := Lib.hid (fun W (h : EN B W) => gfrom_any B P HPS.out W h)
          rw [← HX.out] at MFR
          go_wp2_with (first | refine wpList_pos (by rfl) _ (by rfl) W0.heap.size P X HX.out (by rfl) HU.out.p ?_ | fail)
          refine (MFR.out _ HU.out.e).mono ?_
          rintro e w13 ⟨ob, b2, m2, rfl, hm, hb⟩
          obtain ⟨o, ho⟩ : ∃ g, (gz ob b2 m2).comes P = g := ⟨_, rfl⟩
          have HO := Lib.hid (show o.gb = ob ∧ Gis o (coB P) [] by rw [← ho]; exact ⟨rfl, gz_is ob b2 m2 P HPS.out⟩)
          rw [ho] at hm
          obtain ⟨obs, hobs⟩ : ∃ s, wc.heap.size = s := ⟨_, rfl⟩
          have HS := Lib.hid (show w2.heap.size ≤ obs ∧ B ≤ obs ∧ (∀ q, g.X q → q < obs) ∧ (∀ q, rv.ownBlock = some q → q < obs) ∧ ab < obs from ⟨by rw [← hobs]; exact HU.out.sz, by rw [← hobs]; exact HU.out.e.k, fun q hq => by rw [← hobs]; exact (HU.out.m.ltX q hq).2, fun q hq => by rw [← hobs]; exact (HU.out.own.lt q hq).2, by rw [← hobs]; exact HU.out.a.lt⟩)
          have HD1 := Lib.hid (fun q (hq : g.X q) => (HU.out.d1 q hq).2.2.1)
          have HLO := Lib.hid HU.out.lo
          rw [hobs] at hm
          have HM := Lib.hid hm
          replace HU := Lib.hid (HU.out.go hb)
          have HOS := Lib.hid (show obs ≤ w13.heap.size from by rw [← hobs]; exact hb.size)
          clear hm hb MFR ho hobs
          dsimp only
          refine list_go (by assumption) ?_
          go_wp2_with fail
          refine (MR.out _ HU.out).mono ?_
          rintro e w14 ⟨rfl, hb⟩
          replace HU := Lib.hid (HU.out.go hb)
          replace HM := Lib.hid (HM.out.go hb)
          replace HOS := Lib.hid (Nat.le_trans HOS.out hb.size)
          clear hb MR
          dsimp only
          refine list_go (by assumption) ?_
          obtain ⟨pr, cr, hvr, hrr⟩ := reads3_own HU.out.own
          have MPY := Lib.hid (gplay_any B obs o (coB P) [] (mF g.L) (mT g.L) (mK g.L) pr g.L.length cr (by have := HLL.out; omega) (by simp) HO.out.2 w14 HM.out HU.out.e HOS.out HS.out.2.1 hrr (fun b oo e hx => by
            have h1 := (HM.out.ltX b hx).1
            have h2 := HS.out.2.2.2.1 b (by rw [hvr, e]; rfl)
            omega))
          rw [py_all HG.out.2.2.1 (by have := HLL.out; omega), HO.out.1] at MPY
          subst hvr
          clear hrr
          go_wp2_with fail
          refine MPY.out.mono ?_
          rintro e w15 ⟨o', rfl, hs, hi⟩
          have hi : Gis o' (coL P g.L) g.L := hi
          have HO2 := Lib.hid (show o'.gb = ob ∧ o'.P = g.P ∧ o'.r = g.r ∧ o'.y = g.y from by
            have h : o'.core = g.core := hi.a.trans HG.out.2.1.a.symm
            exact ⟨hs.s.1.trans HO.out.1, congrArg (fun A : GCore => A.1) h, congrArg (fun A : GCore => A.2.2.2.1) h, congrArg (fun A : GCore => A.2.2.2.2) h⟩)
          have HM2 := Lib.hid hs.m
          have HX2 := Lib.hid HM.out.ltX
          replace HU := Lib.hid (show GW w2.heap.size g w15 ∧ Below w2.heap.size w2 w15 ∧ EN B w15 ∧ w2.heap.size ≤ w15.heap.size ∧ PB w15 ab g.P from
            ⟨HU.out.m.ch hs.c fun k hk hx => by have h1 := (HX2.out k hx).1; have h2 := HS.out.2.2.1 k hk; omega, hs.c.below HU.out.bl HU.out.sz fun k hk hx => by have h1 := (HX2.out k hx).1; have h2 := HS.out.1; omega,
              hs.en HM.out HU.out.e HS.out.2.1, Nat.le_trans HU.out.sz hs.c.size, hs.c.pb HU.out.a (fun hx => by have h1 := (HX2.out ab hx).1; have h2 := HS.out.2.2.2.2; omega)⟩)
          clear hs hi MPY HM HX2
          dsimp only
          refine list_go (by assumption) ?_
          have MN1 := Lib.hid (fun W (h : GW w2.heap.size g W) => gnow_any w2.heap.size g W h)
          have MN2 := Lib.hid (fun W (h : GW obs o' W) => gnow_any obs o' W h)
          have MR2 := Lib.hid (fun W (h : GW obs o' W) => gresult_any obs o' W h)
          rw [HO2.out.1] at MN2 MR2
          rw [HO2.out.2.1, ← HXN.out] at MN2
          rw [HO2.out.2.2.1, HO2.out.2.2.2] at MR2
          rw [HG.out.1, ← HXN.out] at MN1
          go_wp2_with fail
          refine (MN2.out _ HM2.out).mono ?_
          rintro e w16 ⟨rfl, hb⟩
          replace HU := Lib.hid (show GW w2.heap.size g w16 ∧ Below w2.heap.size w2 w16 ∧ EN B w16 ∧ w2.heap.size ≤ w16.heap.size ∧ PB w16 ab g.P from ⟨HU.out.1.go hb, HU.out.2.1.trans (hb.mono HU.out.2.2.2.1), HU.out.2.2.1.go hb, Nat.le_trans HU.out.2.2.2.1 hb.size, HU.out.2.2.2.2.go hb⟩)
          replace HM2 := Lib.hid (HM2.out.go hb)
          clear hb MN2
          dsimp only
          refine list_go (by assumption) ?_
          go_wp2_with fail
          refine (MN1.out _ HU.out.1).mono ?_
          rintro e w17 ⟨rfl, hb⟩
          replace HU := Lib.hid (show GW w2.heap.size g w17 ∧ Below w2.heap.size w2 w17 ∧ EN B w17 ∧ w2.heap.size ≤ w17.heap.size ∧ PB w17 ab g.P from ⟨HU.out.1.go hb, HU.out.2.1.trans (hb.mono HU.out.2.2.2.1), HU.out.2.2.1.go hb, Nat.le_trans HU.out.2.2.2.1 hb.size, HU.out.2.2.2.2.go hb⟩)
          replace HM2 := Lib.hid (HM2.out.go hb)
          clear hb MN1
          dsimp only
          refine list_go (by assumption) ?_
          go_wp2_with fail
          refine (MR2.out _ HM2.out).mono ?_
          rintro e w18 ⟨rfl, hb⟩
          replace HU := Lib.hid (show GW w2.heap.size g w18 ∧ Below w2.heap.size w2 w18 ∧ EN B w18 ∧ w2.heap.size ≤ w18.heap.size ∧ PB w18 ab g.P from ⟨HU.out.1.go hb, HU.out.2.1.trans (hb.mono HU.out.2.2.2.1), HU.out.2.2.1.go hb, Nat.le_trans HU.out.2.2.2.1 hb.size, HU.out.2.2.2.2.go hb⟩)
          clear hb MR2 HM2
          dsimp only
          refine list_go (by assumption) ?_
          cases ov
          · have hr0 : (g.r == 0) = true := by simpa using hov
            clear hov
            go_wp2
            go_ret
            exact ⟨rfl, HFB.out _ HU.out.2.1⟩
          · have hr : g.r ≠ 0 := by simpa using hov
            have hr0 : (g.r == 0) = false := beq_eq_false_iff_ne.2 hr
            have HR9 := Lib.hid hr
            clear hov hr
            have HQ := Lib.hid (show GN B w2.heap.size ab g g w2 w18 from ⟨rfl, rfl, rfl, rfl, HU.out.2.1, HU.out.2.2.2.2, HU.out.1, HU.out.2.2.1, HU.out.2.2.2.1, HD1.out, HLO.out.2.2.1, HLO.out.2.2.2.2⟩)
            have M9P := Lib.hid (fun R W (h : GN B w2.heap.size ab g g w2 W) hR hx => h.play9 HR9.out HG.out.2.1 (by have := HLL.out; omega) R hR hx)
            have M9C := Lib.hid (fun g' W (h : GN B w2.heap.size ab g g' w2 W) => h.claim9 HR9.out HLL.out.1)
            have M9S := Lib.hid (fun g' W (h : GN B w2.heap.size ab g g' w2 W) => h.stop9 HR9.out)
            have M9N := Lib.hid (fun g' W (h : GN B w2.heap.size ab g g' w2 W) => h.now9)
            rw [HG.out.1] at M9P M9C M9S M9N
            rw [← HXN.out] at M9N
            clear HU HR9
            go_upto_region 39 with (fail)
            refine wp_region_noPanic ?_
            refine wp_region_start (n := 32) (l := #[false, false, false, false, false, false, false, false, false, false, false, false, false, false, false, false, false, false, false, false, false, false, false, false, false, false, false, false, false, false, false, false]) (S := (fun W => PB W ab g.P)) (by kernel_rfl) rfl (by kernel_rfl) (by first | exact HQ.out.pa | exact (HQ.out.go (Below.refl _ _).drew).pa) (fun hHeld => ?_)
            replace HQ := Lib.hid (HQ.out.go (Below.refl _ _).drew)
            generalize World.drew _ = V0 at *
            refine tq (i := 0) (d := some 202) rfl rfl ?_
            try simp only [aP, sA, sZ, sS]
            refine tq (i := 1) (d := some 203) rfl rfl ?_
            try simp only [aP, sA, sZ, sS]
            refine tq (i := 2) (d := some 204) rfl rfl ?_
            try simp only [aP, sA, sZ, sS]
            refine tq (i := 3) (d := some 205) rfl rfl ?_
            try simp only [aP, sA, sZ, sS]
            refine tq (i := 4) (d := some 206) rfl rfl ?_
            try simp only [aP, sA, sZ, sS]
            refine tq (i := 5) (d := some 207) rfl rfl ?_
            try simp only [aP, sA, sZ, sS]
            refine tq (i := 6) (d := some 208) rfl rfl ?_
            try simp only [aP, sA, sZ, sS]
            refine tq (i := 7) (d := some 209) rfl rfl ?_
            try simp only [aP, sA, sZ, sS]
            refine tq (i := 8) (d := some 210) rfl rfl ?_
            try simp only [aP, sA, sZ, sS]
            refine tq (i := 9) (d := some 211) rfl rfl ?_
            try simp only [aP, sA, sZ, sS]
            refine tq (i := 10) (d := some 212) rfl rfl ?_
            try simp only [aP, sA, sZ, sS]
            refine og (i := 11) rfl (by kernel_rfl) (fun K hK => ?_)
            go_simp
            have HRW := Lib.hid (show (V0.alloc (.cells #[.int .i64 0, .int .i64 0, .int .i64 0] 46)).heap[V0.heap.size]? = some (.cells #[.int .i64 0, .int .i64 0, .int .i64 0] 46 (0, 0)) from sl_at rfl)
            have HNX := Lib.hid (show ¬ g.X V0.heap.size from fun hx => Nat.lt_irrefl _ (HQ.out.m.ltX _ hx).2)
            replace HQ := Lib.hid (HQ.out.go (below_new (.cells #[.int .i64 0, .int .i64 0, .int .i64 0] 46)))
            generalize V0.alloc (.cells #[.int .i64 0, .int .i64 0, .int .i64 0] 46) = V1 at *
            generalize V0.heap.size = RR at *
            refine hK.out _ _ (by first | exact HQ.out.pa | exact (HQ.out.go (Below.refl _ _).drew).pa) (fun hHeld => ?_)
            clear hK K
            try simp only [aP, sA, sZ, sS]
            refine og (i := 12) rfl (by kernel_rfl) (fun K hK => ?_)
            go_simp
            refine (M9P.out _ _ HQ.out HRW.out HNX.out).mono ?_
            rintro e V2 ⟨g', rfl, hq⟩
            replace HQ := Lib.hid hq
            clear hq HRW HNX M9P
            dsimp only
            refine hK.out _ _ (by first | exact HQ.out.pa | exact (HQ.out.go (Below.refl _ _).drew).pa) (fun hHeld => ?_)
            clear hK K
            try simp only [aP, sA, sZ, sS]
            refine tq (i := 13) (d := some 215) rfl rfl ?_
            try simp only [aP, sA, sZ, sS]
            refine tq (i := 14) (d := some 216) rfl rfl ?_
            try simp only [aP, sA, sZ, sS]
            refine tq (i := 15) (d := some 217) rfl rfl ?_
            try simp only [aP, sA, sZ, sS]
            refine tq (i := 16) (d := some 218) rfl rfl ?_
            try simp only [aP, sA, sZ, sS]
            refine og (i := 17) rfl (by kernel_rfl) (fun K hK => ?_)
            go_simp
            refine (M9C.out _ _ HQ.out).mono ?_
            rintro e V ⟨rfl, hq⟩
            replace HQ := Lib.hid hq
            clear hq
            dsimp only
            refine hK.out _ _ (by first | exact HQ.out.pa | exact (HQ.out.go (Below.refl _ _).drew).pa) (fun hHeld => ?_)
            clear hK K
            try simp only [aP, sA, sZ, sS]
            refine tq (i := 18) (d := some 220) rfl rfl ?_
            try simp only [aP, sA, sZ, sS]
            refine tq (i := 19) (d := some 221) rfl rfl ?_
            try simp only [aP, sA, sZ, sS]
            refine tq (i := 20) (d := some 222) rfl rfl ?_
            try simp only [aP, sA, sZ, sS]
            refine tq (i := 21) (d := some 223) rfl rfl ?_
            try simp only [aP, sA, sZ, sS]
            refine og (i := 22) rfl (by kernel_rfl) (fun K hK => ?_)
            go_simp
            refine (M9S.out _ _ HQ.out).mono ?_
            rintro e V ⟨rfl, hq⟩
            replace HQ := Lib.hid hq
            clear hq
            dsimp only
            refine hK.out _ _ (by first | exact HQ.out.pa | exact (HQ.out.go (Below.refl _ _).drew).pa) (fun hHeld => ?_)
            clear hK K
            try simp only [aP, sA, sZ, sS]
            refine tq (i := 23) (d := some 225) rfl rfl ?_
            try simp only [aP, sA, sZ, sS]
            refine tq (i := 24) (d := some 226) rfl rfl ?_
            try simp only [aP, sA, sZ, sS]
            refine tq (i := 25) (d := some 227) rfl rfl ?_
            try simp only [aP, sA, sZ, sS]
            refine tq (i := 26) (d := some 228) rfl rfl ?_
            try simp only [aP, sA, sZ, sS]
            refine tg (i := 28) (d := some 230) (v := (.agg Xn)) rfl rfl ?_ ?_
            · exact yields_posC (by rfl) _ (by rfl) ab g.P Xn HXN.out (by rfl) (fun W h => h)
            try simp only [aP, sA, sZ, sS]
            refine og (i := 27) rfl (by kernel_rfl) (fun K hK => ?_)
            go_simp
            refine (M9N.out _ _ HQ.out).mono ?_
            rintro e V ⟨rfl, hq⟩
            replace HQ := Lib.hid hq
            clear hq
            dsimp only
            refine hK.out _ _ (by first | exact HQ.out.pa | exact (HQ.out.go (Below.refl _ _).drew).pa) (fun hHeld => ?_)
            clear hK K
            try simp only [aP, sA, sZ, sS]
            refine tq (i := 29) (d := some 231) rfl rfl ?_
            try simp only [aP, sA, sZ, sS]
            refine tq (i := 30) (d := some 232) rfl rfl ?_
            try simp only [aP, sA, sZ, sS]
            refine tq (i := 31) (d := some 4) rfl rfl ?_
            try simp only [aP, sA, sZ, sS]
            refine wpAnyH_done (by kernel_rfl) ?_ _
            refine NoPanic.normal ?_
            clear hHeld
            go_wp2
            go_ret
            exact ⟨rfl, HFB.out _ HQ.out.bl⟩
end Go.Proofs.YtkncfeijlmomaaaGreatDoor
