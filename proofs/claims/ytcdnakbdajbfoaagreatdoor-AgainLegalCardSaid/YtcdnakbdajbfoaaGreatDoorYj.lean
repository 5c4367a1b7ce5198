/-
  AgainLegal: the walk.
-/
import Derived.Deep.CutRange
import Derived.Deep.CutBlock
import Derived.Test.YtcdnakbdajbfoaaGreatDoorYi
namespace Go.Proofs.YtcdnakbdajbfoaaGreatDoor
open Go.RowKit Go.Sort Go.Maps
set_option linter.unusedSimpArgs false
set_option linter.unusedVariables false
set_option maxRecDepth 20000

set_option maxHeartbeats 16000000 in
set_option maxRecDepth 100000 in
theorem againLegal_any (P Q : Nat → Int) (a2 a3 : Int) (W0 : World) (B : Nat) (he : EN B W0) :
    Calls Tryz.prog 5 #[.agg (pc P).toArray, .agg (pc Q).toArray, .int .i64 a2, .int .i64 a3] W0 fun e w' => e = .returned (.bool true) ∧ Below W0.heap.size W0 w' := by
  obtain ⟨X, hX⟩ : ∃ X, X = (pc P).toArray := ⟨_, rfl⟩
  obtain ⟨Y, hY⟩ : ∃ X, X = (pc Q).toArray := ⟨_, rfl⟩
  have HS := Lib.hid (SV.begin W0 P Q X Y hX hY)
  have HE0 := Lib.hid (he.on ((SV.begin W0 P Q X Y hX hY).b.mono he.k))
  have HX := Lib.hid hX
  have HY := Lib.hid hY
  have HB := Lib.hid he.k
  rw [← hX, ← hY]
  have MA := Lib.hid (fun W (h : EN B W) => awake12_any B W h)
  have MS := Lib.hid (fun (L N : Nat → Int) W (h : EN B W) => same_any12 L N W B h.gb h.gs h.gm h.gp h.k)
  have MP := Lib.hid (fun (L : Nat → Int) W (h : EN B W) => position_any L W B h.gb h.gs h.gm h.gp h.k)
  have MM := Lib.hid (fun (L : Nat → Int) W (h : EN B W) => lMoves_any L W B h.gb h.gs h.gm h.gp h.k)
  have MY := Lib.hid (fun (L F T K : Nat → Int) p n c W (h : EN B W) (hn : n ≤ 100000) hr => lPlay_any L F T K p n c hn W B h.gb h.gs h.gm h.gp h.k hr)
  have hg0 := Int.emod_nonneg a3 (show (16384 : Int) ≠ 0 by omega)
  have hg1 := Int.emod_lt_of_pos a3 (show (0 : Int) < 16384 by omega)
  have MK1 := Lib.hid (fun W => pick12_any a3 16384 (by omega) (by omega) W)
  have MK2 := Lib.hid (fun W => pick12_any a2 1025 (by omega) (by omega) W)
  generalize a3 % 16384 = g at *
  generalize a2 % 1025 = h2 at *
  clear hX hY he
  go_enter Tryz.func5, Tryz.ntmps5
  go_upto_region 1 with (fail)
  generalize hw : (W0.alloc (.cells X 30)).alloc (.cells Y 30) = w1 at *
  clear hw
  go_wp2_with fail
  refine (MA.out _ HE0.out).mono ?_
  rintro e w2 ⟨rfl, hb⟩
  replace HS := Lib.hid (HS.out.go hb)
  replace HE0 := Lib.hid (HE0.out.go hb)
  clear hb MA
  dsimp only
  refine list_go (by assumption) ?_
  go_upto_region 3 with (fail)
  refine wp_region_lit ?_
  refine wpList_pos (by rfl) _ (by rfl) W0.heap.size P X HX.out (by rfl) HS.out.p ?_
  refine wpList_newP X P HX.out (by rfl) (by rfl) (fun w3 hp hb hsz => ?_)
  have HG := Lib.hid (show LG B w2.heap.size W0 w3 P Q P from ⟨HS.out.p.go hb, HS.out.q.go hb, hp, HS.out.b.trans (hb.mono HS.out.b.size), HE0.out.go hb, by have := HS.out.q.lt; omega, HB.out⟩)
  clear hp hb hsz HS HE0
  generalize w2.heap.size = rb at *
  show Exit.then _ _ Exit.normal _ _
  go_wp2_with fail
  refine (MK1.out _).mono ?_
  rintro e w4 ⟨rfl, rfl⟩
  dsimp only
  refine list_go (by assumption) ?_
  have c1 := HG.out.r.cell 132 (by omega)
  have f1 := HG.out.r.fr 132
  have HG2 := Lib.hid (HG.out.set 132 (1 + g) (by omega))
  have hw1 : IntKind.i64.wrap (1 + g) = 1 + g := IntWalk.i64_in _ (by omega)
  obtain ⟨tb, htb⟩ : ∃ b, (P 130 == -1) = b := ⟨_, rfl⟩
  have e0 := HG2.out.p.cell 130 (by omega)
  clear MK1 HG
  go_upto_region 5 with (fail)
  refine forget_B (fun W => LG B rb W0 W P Q (setN P 132 (1 + g))) HG2.out ?_
  clear c1 f1 e0 HG2 hw1
  intro w5 hg
  have HG := Lib.hid hg
  clear hg
  have e0 : w5.cell? ⟨W0.heap.size, 130, none⟩ = some (.int .i64 (P 130)) := HG.out.p.cell 130 (by omega)
  obtain ⟨ov, hov⟩ : ∃ x, P 130 = x := ⟨_, rfl⟩
  rw [hov] at e0 htb
  clear hov
  go_upto_if 28 with (fail)
  go_cut [] from 29 to 31 (fun wx => ∃ R, Like P R ∧ LG B rb W0 wx P Q R)
  case first =>
    cases tb
    · go_wp2_with fail
      go_meet
      exact ⟨_, fun i hi => by unfold setN; rw [if_neg (by omega)], HG.out⟩
    · go_wp2_with fail
      refine (MK2.out _).mono ?_
      rintro e w6 ⟨rfl, rfl⟩
      dsimp only
      refine list_go (by assumption) ?_
      have c1 := HG.out.r.cell 131 (by omega)
      have f1 := HG.out.r.fr 131
      have HG2 := Lib.hid (HG.out.set 131 h2 (by omega))
      go_wp2_with fail
      go_meet
      exact ⟨_, fun i hi => by unfold setN; rw [if_neg (by omega), if_neg (by omega)], HG2.out⟩
  case rest =>
  obtain ⟨R, hl, hg⟩ := hcut
  have HL := Lib.hid hl
  have HG := Lib.hid hg
  clear hl hg htb e0 MK2 hg0 hg1
  obtain ⟨Z, hZ⟩ : ∃ X, X = (pc R).toArray := ⟨_, rfl⟩
  have HZ := Lib.hid hZ
  have MP1 := Lib.hid (MP.out P)
  have MS1 := Lib.hid (MS.out P R)
  have MS2 := Lib.hid (MS.out P P)
  rw [samB_like HL.out, ← HX.out, ← hZ] at MS1
  rw [samB_refl P, ← HX.out] at MS2
  obtain ⟨ps, hps⟩ : ∃ b, posB P = b := ⟨_, rfl⟩
  rw [hps, ← HX.out] at MP1
  have HPS := Lib.hid hps
  clear hZ hps
  go_wp2_with (first | refine wpList_pos (by rfl) _ (by rfl) W0.heap.size P X HX.out (by rfl) HG.out.p ?_ | fail)
  refine (MP1.out _ HG.out.e).mono ?_
  rintro e w7 ⟨rfl, hb⟩
  replace HG := Lib.hid (HG.out.go hb)
  clear hb MP1
  dsimp only
  refine list_go (by assumption) ?_
  cases ps
  · go_wp2
    go_ret
    exact ⟨rfl, HG.out.bl⟩
  · go_wp2_with (first | refine wpList_pos (by rfl) _ (by rfl) W0.heap.size P X HX.out (by rfl) HG.out.p ?_ | refine wpList_pos (by rfl) _ (by rfl) rb R Z HZ.out (by rfl) HG.out.r ?_ | fail)
    refine (MS1.out _ HG.out.e).mono ?_
    rintro e w8 ⟨rfl, hb⟩
    replace HG := Lib.hid (HG.out.go hb)
    clear hb MS1
    dsimp only
    refine list_go (by assumption) ?_
    go_wp2_with (first | refine wpList_pos (by rfl) _ (by rfl) W0.heap.size P X HX.out (by rfl) HG.out.p ?_ | fail)
    refine (MS2.out _ HG.out.e).mono ?_
    rintro e w9 ⟨rfl, hb⟩
    replace HG := Lib.hid (HG.out.go hb)
    clear hb MS2
    dsimp only
    refine list_go (by assumption) ?_
    go_upto_region 11 with (fail)
    refine wp_region_lit ?_
    refine wpList_pos (by rfl) _ (by rfl) (W0.heap.size + 1) Q Y HY.out (by rfl) HG.out.q ?_
    refine wpList_pos (by rfl) _ (by rfl) rb R Z HZ.out (by rfl) HG.out.r ?_
    refine wpList_plain rfl (fun K hK => ?_)
    refine wp_sliceP 2 _ rfl [Y, Z] (fun V hx => by rcases List.mem_cons.1 hx with e | e; rw [e, HY.out]; exact pc_size Q; rw [List.mem_singleton.1 e, HZ.out]; exact pc_size R) rfl (by omega) (by omega) (by rfl) ?_
    refine hK _ _ ?_
    clear hK K
    have HA := Lib.hid (show AL B w9.heap.size P (fun i => if i = 0 then Q else R) W0 (w9.alloc (.cells ([Y, Z].flatMap fun X => X.toList).toArray 30)) from
      ⟨(HG.out.go (below_new _)).p, readsP_row (by rw [HY.out, HZ.out]; rfl) (sl_at rfl), (HG.out.go (below_new _)).bl, (HG.out.go (below_new _)).e⟩)
    clear HG HL
    generalize w9.alloc (.cells ([Y, Z].flatMap fun X => X.toList).toArray 30) = w10 at *
    generalize w9.heap.size = lb at *
    generalize (fun i => if i = 0 then Q else R : Nat → Nat → Int) = Ls at *
    clear HY HZ
    go_wp2
    go_loopw [11] (fun x wr => ∃ i : Nat, i ≤ 2 ∧ x = .int .i64 (i : Int) ∧ AL B lb P Ls W0 wr) (fun x _ => 2 - (intOf x).toNat)
    case atStart => exact ⟨0, Nat.zero_le _, rfl, HA.out⟩
    case round =>
      clear HA
      obtain ⟨i, hi, rfl, ha⟩ := hrel
      have HA := Lib.hid ha
      clear ha
      by_cases hlt : i < 2
      · obtain ⟨L, hL⟩ : ∃ L, Ls i = L := ⟨_, rfl⟩
        have HRL := Lib.hid (fun W (h : AL B lb P Ls W0 W) => show W.rangeAt lb (i * 133) (pc L) by have := h.l.at hlt; rw [Nat.zero_add, hL] at this; exact this)
        obtain ⟨V, hV⟩ : ∃ X, X = (pc L).toArray := ⟨_, rfl⟩
        have HV := Lib.hid hV
        have MSL := Lib.hid (MS.out P L)
        have MPL := Lib.hid (MP.out L)
        obtain ⟨sm, hsm⟩ : ∃ b, samB P L = b := ⟨_, rfl⟩
        obtain ⟨pl, hpl⟩ : ∃ b, posB L = b := ⟨_, rfl⟩
        rw [hsm, ← HX.out, ← hV] at MSL
        rw [hpl, ← hV] at MPL
        have HSM := Lib.hid hsm
        have HPL := Lib.hid hpl
        have i0 : (0 : Int) ≤ (i : Int) := by omega
        have i1 : (i : Int) < 2 := by omega
        clear hL hV hsm hpl
        go_upto_region 15 with (fail)
        cases sm
        · skip
          refine wp_region_noPanic ?_
          refine wp_region_start (n := 15) (l := #[ff, ff, ff, ff, ff, ff, ff, ff, ff, ff, ff, ff, ff, ff, ff]) (S := (fun W => AL B lb P Ls W0 W)) (by kernel_rfl) rfl (by kernel_rfl) (by first | exact HA.out | exact HA.out.go (Below.refl _ _).drew) (fun hHeld => ?_)
          replace HA := Lib.hid (HA.out.go (Below.refl wr.heap.size wr).drew)
          generalize wr.drew = V1 at *
          refine tg (i := 0) (d := some 52) (v := (.agg X)) rfl rfl ?_ ?_
          · exact yields_posC (by rfl) _ (by rfl) W0.heap.size P X HX.out (by rfl) (fun W h => h.p)
          try simp only [aP, sA, sZ, sS]
          refine tq (i := 1) (d := some 53) rfl rfl ?_
          try simp only [aP, sA, sZ, sS]
          refine tq (i := 2) (d := some 54) rfl rfl ?_
          try simp only [aP, sA, sZ, sS]
          refine tq (i := 3) (d := some 55) rfl rfl ?_
          try simp only [aP, sA, sZ, sS]
          refine tg (i := 4) (d := some 56) (v := (.agg V)) rfl rfl ?_ ?_
          · exact yields_posAt (by rfl) _ (by rfl) lb (i * 133) L V HV.out (by rfl) (fun W h => HRL.out W h)
          try simp only [aP, sA, sZ, sS]
          refine og (i := 5) rfl (by kernel_rfl) (fun K hK => ?_)
          go_simp
          refine (MSL.out _ HA.out.e).mono ?_
          rintro e V1 ⟨rfl, hb⟩
          replace HA := Lib.hid (HA.out.go hb)
          clear hb
          dsimp only
          refine hK.out _ _ (by first | exact HA.out | exact HA.out.go (Below.refl _ _).drew) (fun hHeld => ?_)
          clear hK K
          try simp only [aP, sA, sZ, sS]
          refine tq (i := 6) (d := some 58) rfl rfl ?_
          try simp only [aP, sA, sZ, sS]
          refine tq (i := 7) (d := some 59) rfl rfl ?_
          try simp only [aP, sA, sZ, sS]
          refine tg (i := 8) (d := some 60) (v := undef) rfl rfl (Or.inr ⟨by rfl, rfl⟩) ?_
          try simp only [aP, sA, sZ, sS]
          refine tg (i := 9) (d := some 61) (v := undef) rfl rfl (Or.inr ⟨by rfl, rfl⟩) ?_
          try simp only [aP, sA, sZ, sS]
          refine tg (i := 10) (d := some 62) (v := undef) rfl rfl (Or.inr ⟨by rfl, rfl⟩) ?_
          try simp only [aP, sA, sZ, sS]
          refine tg (i := 11) (d := some 63) (v := undef) rfl rfl (Or.inr ⟨by rfl, rfl⟩) ?_
          try simp only [aP, sA, sZ, sS]
          refine og (i := 12) rfl (by kernel_rfl) (fun K hK => ?_)
          go_simp
          refine hK.out _ _ (by first | exact HA.out | exact HA.out.go (Below.refl _ _).drew) (fun hHeld => ?_)
          clear hK K
          try simp only [aP, sA, sZ, sS]
          refine tg (i := 13) (d := some 65) (v := undef) rfl rfl (Or.inr ⟨by rfl, rfl⟩) ?_
          try simp only [aP, sA, sZ, sS]
          refine tq (i := 14) (d := some 66) rfl rfl ?_
          try simp only [aP, sA, sZ, sS]
          refine wpAnyH_done (by kernel_rfl) ?_ _
          refine NoPanic.normal ?_
          clear hHeld
          go_wp2
          go_roundw
          case rel => exact ⟨i + 1, by omega, by go_num, HA.out⟩
          case measure => simp [intOf]; omega
        · cases pl
          · skip
            refine wp_region_noPanic ?_
            refine wp_region_start (n := 15) (l := #[ff, ff, ff, ff, ff, ff, ff, ff, ff, ff, ff, ff, ff, ff, ff]) (S := (fun W => AL B lb P Ls W0 W)) (by kernel_rfl) rfl (by kernel_rfl) (by first | exact HA.out | exact HA.out.go (Below.refl _ _).drew) (fun hHeld => ?_)
            replace HA := Lib.hid (HA.out.go (Below.refl wr.heap.size wr).drew)
            generalize wr.drew = V1 at *
            refine tg (i := 0) (d := some 52) (v := (.agg X)) rfl rfl ?_ ?_
            · exact yields_posC (by rfl) _ (by rfl) W0.heap.size P X HX.out (by rfl) (fun W h => h.p)
            try simp only [aP, sA, sZ, sS]
            refine tq (i := 1) (d := some 53) rfl rfl ?_
            try simp only [aP, sA, sZ, sS]
            refine tq (i := 2) (d := some 54) rfl rfl ?_
            try simp only [aP, sA, sZ, sS]
            refine tq (i := 3) (d := some 55) rfl rfl ?_
            try simp only [aP, sA, sZ, sS]
            refine tg (i := 4) (d := some 56) (v := (.agg V)) rfl rfl ?_ ?_
            · exact yields_posAt (by rfl) _ (by rfl) lb (i * 133) L V HV.out (by rfl) (fun W h => HRL.out W h)
            try simp only [aP, sA, sZ, sS]
            refine og (i := 5) rfl (by kernel_rfl) (fun K hK => ?_)
            go_simp
            refine (MSL.out _ HA.out.e).mono ?_
            rintro e V1 ⟨rfl, hb⟩
            replace HA := Lib.hid (HA.out.go hb)
            clear hb
            dsimp only
            refine hK.out _ _ (by first | exact HA.out | exact HA.out.go (Below.refl _ _).drew) (fun hHeld => ?_)
            clear hK K
            try simp only [aP, sA, sZ, sS]
            refine tq (i := 6) (d := some 58) rfl rfl ?_
            try simp only [aP, sA, sZ, sS]
            refine tq (i := 7) (d := some 59) rfl rfl ?_
            try simp only [aP, sA, sZ, sS]
            refine tq (i := 8) (d := some 60) rfl rfl ?_
            try simp only [aP, sA, sZ, sS]
            refine tq (i := 9) (d := some 61) rfl rfl ?_
            try simp only [aP, sA, sZ, sS]
            refine tq (i := 10) (d := some 62) rfl rfl ?_
            try simp only [aP, sA, sZ, sS]
            refine tg (i := 11) (d := some 63) (v := (.agg V)) rfl rfl ?_ ?_
            · exact yields_posAt (by rfl) _ (by rfl) lb (i * 133) L V HV.out (by rfl) (fun W h => HRL.out W h)
            try simp only [aP, sA, sZ, sS]
            refine og (i := 12) rfl (by kernel_rfl) (fun K hK => ?_)
            go_simp
            refine (MPL.out _ HA.out.e).mono ?_
            rintro e V1 ⟨rfl, hb⟩
            replace HA := Lib.hid (HA.out.go hb)
            clear hb
            dsimp only
            refine hK.out _ _ (by first | exact HA.out | exact HA.out.go (Below.refl _ _).drew) (fun hHeld => ?_)
            clear hK K
            try simp only [aP, sA, sZ, sS]
            refine tq (i := 13) (d := some 65) rfl rfl ?_
            try simp only [aP, sA, sZ, sS]
            refine tq (i := 14) (d := some 66) rfl rfl ?_
            try simp only [aP, sA, sZ, sS]
            refine wpAnyH_done (by kernel_rfl) ?_ _
            refine NoPanic.normal ?_
            clear hHeld
            go_wp2
            go_roundw
            case rel => exact ⟨i + 1, by omega, by go_num, HA.out⟩
            case measure => simp [intOf]; omega
          · skip
            refine wp_region_noPanic ?_
            refine wp_region_start (n := 15) (l := #[ff, ff, ff, ff, ff, ff, ff, ff, ff, ff, ff, ff, ff, ff, ff]) (S := (fun W => AL B lb P Ls W0 W)) (by kernel_rfl) rfl (by kernel_rfl) (by first | exact HA.out | exact HA.out.go (Below.refl _ _).drew) (fun hHeld => ?_)
            replace HA := Lib.hid (HA.out.go (Below.refl wr.heap.size wr).drew)
            generalize wr.drew = V1 at *
            refine tg (i := 0) (d := some 52) (v := (.agg X)) rfl rfl ?_ ?_
            · exact yields_posC (by rfl) _ (by rfl) W0.heap.size P X HX.out (by rfl) (fun W h => h.p)
            try simp only [aP, sA, sZ, sS]
            refine tq (i := 1) (d := some 53) rfl rfl ?_
            try simp only [aP, sA, sZ, sS]
            refine tq (i := 2) (d := some 54) rfl rfl ?_
            try simp only [aP, sA, sZ, sS]
            refine tq (i := 3) (d := some 55) rfl rfl ?_
            try simp only [aP, sA, sZ, sS]
            refine tg (i := 4) (d := some 56) (v := (.agg V)) rfl rfl ?_ ?_
            · exact yields_posAt (by rfl) _ (by rfl) lb (i * 133) L V HV.out (by rfl) (fun W h => HRL.out W h)
            try simp only [aP, sA, sZ, sS]
            refine og (i := 5) rfl (by kernel_rfl) (fun K hK => ?_)
            go_simp
            refine (MSL.out _ HA.out.e).mono ?_
            rintro e V1 ⟨rfl, hb⟩
            replace HA := Lib.hid (HA.out.go hb)
            clear hb
            dsimp only
            refine hK.out _ _ (by first | exact HA.out | exact HA.out.go (Below.refl _ _).drew) (fun hHeld => ?_)
            clear hK K
            try simp only [aP, sA, sZ, sS]
            refine tq (i := 6) (d := some 58) rfl rfl ?_
            try simp only [aP, sA, sZ, sS]
            refine tq (i := 7) (d := some 59) rfl rfl ?_
            try simp only [aP, sA, sZ, sS]
            refine tq (i := 8) (d := some 60) rfl rfl ?_
            try simp only [aP, sA, sZ, sS]
            refine tq (i := 9) (d := some 61) rfl rfl ?_
            try simp only [aP, sA, sZ, sS]
            refine tq (i := 10) (d := some 62) rfl rfl ?_
            try simp only [aP, sA, sZ, sS]
            refine tg (i := 11) (d := some 63) (v := (.agg V)) rfl rfl ?_ ?_
            · exact yields_posAt (by rfl) _ (by rfl) lb (i * 133) L V HV.out (by rfl) (fun W h => HRL.out W h)
            try simp only [aP, sA, sZ, sS]
            refine og (i := 12) rfl (by kernel_rfl) (fun K hK => ?_)
            go_simp
            refine (MPL.out _ HA.out.e).mono ?_
            rintro e V1 ⟨rfl, hb⟩
            replace HA := Lib.hid (HA.out.go hb)
            clear hb
            dsimp only
            refine hK.out _ _ (by first | exact HA.out | exact HA.out.go (Below.refl _ _).drew) (fun hHeld => ?_)
            clear hK K
            try simp only [aP, sA, sZ, sS]
            refine tq (i := 13) (d := some 65) rfl rfl ?_
            try simp only [aP, sA, sZ, sS]
            refine tq (i := 14) (d := some 66) rfl rfl ?_
            try simp only [aP, sA, sZ, sS]
            refine wpAnyH_done (by kernel_rfl) ?_ _
            refine NoPanic.normal ?_
            clear hHeld
            obtain ⟨m1, m2, hmv⟩ := same_mv HPS.out HPL.out HSM.out
            have MM1 := Lib.hid (MM.out P)
            have MM2 := Lib.hid (MM.out L)
            have hll : (legM P).length ≤ 17920 := legM_len P
            rw [m1, ← HX.out] at MM1
            rw [m2, ← HV.out] at MM2
            have HMV := Lib.hid hmv
            have HOWN := Lib.hid (fun (W : World) base v (h : W.ownsRow base 52 3 v (legM P).length (mvals (legM P))) => reads3_own h)
            have MYP := Lib.hid (MY.out P)
            have MYL := Lib.hid (MY.out L)
            rw [← HX.out] at MYP
            rw [← HV.out] at MYL
            obtain ⟨n, hn⟩ : ∃ n, (legM P).length = n := ⟨_, rfl⟩
            rw [hn] at MM1 MM2 HOWN HMV hll
            generalize mF (legM P) = F at *
            generalize mT (legM P) = T at *
            generalize mK (legM P) = K at *
            clear m1 m2 hmv hn MSL MPL
            go_upto_region 16 with (fail)
            go_cut [12, 13] from 67 to 73 (fun v12 v13 wx => ∃ ap ca bp cb, v12 = .slice ap n ca ∧ v13 = .slice bp n cb ∧ AL B lb P Ls W0 wx ∧ Reads3 wx.heap.size wx ap n F T K ∧ Reads3 wx.heap.size wx bp n F T K)
            case first =>
              refine wp_region_noPanic ?_
              refine wp_region_start (n := 9) (l := #[ff, ff, ff, ff, ff, ff, ff, ff, ff]) (S := (fun W => AL B lb P Ls W0 W)) (by kernel_rfl) rfl (by kernel_rfl) (by first | exact HA.out | exact HA.out.go (Below.refl _ _).drew) (fun hHeld => ?_)
              replace HA := Lib.hid (HA.out.go (Below.refl _ _).drew)
              refine tg (i := 0) (d := some 67) (v := (.agg X)) rfl rfl ?_ ?_
              · exact yields_posC (by rfl) _ (by rfl) W0.heap.size P X HX.out (by rfl) (fun W h => h.p)
              try simp only [aP, sA, sZ, sS]
              refine tq (i := 2) (d := some 69) rfl rfl ?_
              try simp only [aP, sA, sZ, sS]
              refine tq (i := 3) (d := some 70) rfl rfl ?_
              try simp only [aP, sA, sZ, sS]
              refine tq (i := 4) (d := some 71) rfl rfl ?_
              try simp only [aP, sA, sZ, sS]
              refine tg (i := 5) (d := some 72) (v := (.agg V)) rfl rfl ?_ ?_
              · exact yields_posAt (by rfl) _ (by rfl) lb (i * 133) L V HV.out (by rfl) (fun W h => HRL.out W h)
              try simp only [aP, sA, sZ, sS]
              refine og (i := 1) rfl (by kernel_rfl) (fun K hK => ?_)
              go_simp
              refine (MM1.out _ HA.out.e).mono ?_
              rintro e V1 ⟨v1, rfl, hb, hown⟩
              obtain ⟨ap, ca, rfl, hr1⟩ := HOWN.out _ _ _ hown
              replace HA := Lib.hid (HA.out.go hb)
              try replace HR2 := Lib.hid ((HR2.out.below hb).mono hb.size)
              have HR1 := Lib.hid hr1
              clear hb hown hr1
              dsimp only
              refine hK.out _ _ (by first | exact HA.out | exact HA.out.go (Below.refl _ _).drew) (fun hHeld => ?_)
              clear hK K
              try simp only [aP, sA, sZ, sS]
              refine og (i := 6) rfl (by kernel_rfl) (fun K hK => ?_)
              go_simp
              refine (MM2.out _ HA.out.e).mono ?_
              rintro e V1 ⟨v1, rfl, hb, hown⟩
              obtain ⟨bp, cb, rfl, hr1⟩ := HOWN.out _ _ _ hown
              replace HA := Lib.hid (HA.out.go hb)
              try replace HR1 := Lib.hid ((HR1.out.below hb).mono hb.size)
              have HR2 := Lib.hid hr1
              clear hb hown hr1
              dsimp only
              refine hK.out _ _ (by first | exact HA.out | exact HA.out.go (Below.refl _ _).drew) (fun hHeld => ?_)
              clear hK K
              try simp only [aP, sA, sZ, sS]
              refine tq (i := 7) (d := some 12) rfl rfl ?_
              try simp only [aP, sA, sZ, sS]
              refine tq (i := 8) (d := some 13) rfl rfl ?_
              try simp only [aP, sA, sZ, sS]
              refine wpAnyH_done (by kernel_rfl) ?_ _
              refine NoPanic.normal ?_
              clear hHeld
              go_wp2_with fail
              go_meet
              exact ⟨ap, ca, bp, cb, rfl, rfl, HA.out, HR1.out, HR2.out⟩
            case rest =>
            obtain ⟨ap, ca, bp, cb, rfl, rfl, h1, h2, h3⟩ := hcut
            have HIL := Lib.hid (show IL B lb P Ls ap bp n F T K W0 _ from ⟨h1, h2, h3⟩)
            clear h1 h2 h3 MM1 MM2 HOWN HA
            have n0 : (0 : Int) ≤ (n : Int) := by omega
            go_wp2
            go_loopw [14] (fun x wr => ∃ m : Nat, m ≤ n ∧ x = .int .i64 (m : Int) ∧ IL B lb P Ls ap bp n F T K W0 wr) (fun x _ => n - (intOf x).toNat)
            case atStart => exact ⟨0, Nat.zero_le _, rfl, HIL.out⟩
            case round =>
              clear HIL
              obtain ⟨m, hm, rfl, hil⟩ := hrel
              by_cases hlm : m < n
              · obtain ⟨s, t, k, N1, N2, q1, q2, q3, p1, p2, p3, p4, hsn⟩ := HMV.out m hlm
                have hr1 := hil.r1
                have hr2 := hil.r2
                obtain ⟨pb, po, rfl⟩ := hr1.addr hlm
                obtain ⟨pb2, po2, rfl⟩ := hr2.addr hlm
                have HC1 := Lib.hid (show ∀ W, IL B lb P Ls (some ⟨pb, po, none⟩) (some ⟨pb2, po2, none⟩) n F T K W0 W → W.cell? ⟨pb, po + m * 3, none⟩ = some (.int .i64 s) ∧ W.cell? ⟨pb, po + m * 3 + 1, none⟩ = some (.int .i64 t) ∧ W.cell? ⟨pb, po + m * 3 + 2, none⟩ = some (.int .i64 k) from fun W h => by
                  have := h.r1.cells hlm
                  rw [q1, q2, q3] at this
                  exact this)
                have HC2 := Lib.hid (show ∀ W, IL B lb P Ls (some ⟨pb, po, none⟩) (some ⟨pb2, po2, none⟩) n F T K W0 W → W.cell? ⟨pb2, po2 + m * 3, none⟩ = some (.int .i64 s) ∧ W.cell? ⟨pb2, po2 + m * 3 + 1, none⟩ = some (.int .i64 t) ∧ W.cell? ⟨pb2, po2 + m * 3 + 2, none⟩ = some (.int .i64 k) from fun W h => by
                  have := h.r2.cells hlm
                  rw [q1, q2, q3] at this
                  exact this)
                obtain ⟨V5, hV5⟩ : ∃ X, X = (pc N1).toArray := ⟨_, rfl⟩
                obtain ⟨V6, hV6⟩ : ∃ X, X = (pc N2).toArray := ⟨_, rfl⟩
                have MY1 := Lib.hid (fun p c W (h : EN B W) hr => MYP.out (fun _ => s) (fun _ => t) (fun _ => k) p 1 c W h (by omega) hr)
                have MY2 := Lib.hid (fun p c W (h : EN B W) hr => MYL.out (fun _ => s) (fun _ => t) (fun _ => k) p 1 c W h (by omega) hr)
                rw [p1, p2, ← hV5] at MY1
                rw [p3, p4, ← hV6] at MY2
                have MS3 := Lib.hid (MS.out N1 N2)
                rw [hsn, ← hV5, ← hV6] at MS3
                have H5 := Lib.hid hV5
                have H6 := Lib.hid hV6
                have HVL5 := Lib.hid (show V5.toList = pc N1 by rw [hV5])
                have HVL6 := Lib.hid (show V6.toList = pc N2 by rw [hV6])
                have HW := Lib.hid (show ∀ W, Below wr.heap.size wr W → IL B lb P Ls (some ⟨pb, po, none⟩) (some ⟨pb2, po2, none⟩) n F T K W0 W from fun W g => hil.go g)
                have HI := Lib.hid (Below.refl wr.heap.size wr)
                have hnq := fun W => neq_mv s t k W
                have m0 : (0 : Int) ≤ (m : Int) := by omega
                have m1 : (m : Int) < (n : Int) := by omega
                clear q1 q2 q3 p1 p2 p3 p4 hsn hr1 hr2 hV5 hV6 hil
                go_upto_region 22 with (fail)
                go_cut [15, 16] from 85 to 94 (fun v15 v16 wx => ∃ H, v15 = .pointer (some ⟨H, 0, none⟩) ∧ v16 = .int .i64 0 ∧ PB wx H N1 ∧ Below wr.heap.size wr wx)
                case first =>
                  refine wp_region_noPanic ?_
                  refine wp_region_start (n := 13) (l := #[ff, ff, ff, ff, ff, ff, ff, ff, ff, ff, ff, ff, ff]) (S := (fun W => Below wr.heap.size wr W)) (by kernel_rfl) rfl (by kernel_rfl) (by first | exact HI.out | exact HI.out.drew) (fun hHeld => ?_)
                  replace HI := Lib.hid (show Below wr.heap.size wr _ from HI.out.drew)
                  generalize hdw : wr.drew = V at *
                  clear hdw
                  refine tg (i := 0) (d := some 86) (v := (.agg X)) rfl rfl ?_ ?_
                  · exact yields_posC (by rfl) _ (by rfl) W0.heap.size P X HX.out (by rfl) (fun W h => (HW.out W h).a.p)
                  try simp only [aP, sA, sZ, sS]
                  refine tq (i := 1) (d := some 87) rfl rfl ?_
                  try simp only [aP, sA, sZ, sS]
                  refine tq (i := 2) (d := some 88) rfl rfl ?_
                  try simp only [aP, sA, sZ, sS]
                  refine tq (i := 3) (d := some 89) rfl rfl ?_
                  try simp only [aP, sA, sZ, sS]
                  refine tg (i := 4) (d := some 90) (v := (.agg #[.int .i64 s, .int .i64 t, .int .i64 k])) rfl rfl ?_ ?_
                  · refine Or.inl ⟨by rfl, ?_⟩; intro w' hSw; (try dsimp only at hSw); obtain ⟨e0, e1, e2⟩ := HC1.out w' (HW.out w' hSw); go_simp
                  try simp only [aP, sA, sZ, sS]
                  refine wg (i := 5) (j := 10) rfl rfl (by kernel_rfl) (fun K hK => ?_) (fun K hK => ?_)
                  · skip
                    go_simp
                    have hb : Below V.heap.size V (V.alloc (.cells #[.int .i64 s, .int .i64 t, .int .i64 k] 52)) := below_new _
                    have HAT := Lib.hid (one_row12 V s t k)
                    replace HI := Lib.hid (HI.out.trans (hb.mono HI.out.size))
                    try replace HZB := Lib.hid (HZB.out.go hb)
                    clear hb
                    generalize V.alloc (.cells #[.int .i64 s, .int .i64 t, .int .i64 k] 52) = V at *
                    refine hK.out _ _ (by first | exact HI.out | exact HI.out.drew) (fun hHeld => ?_)
                    clear hK K
                    try simp only [aP, sA, sZ, sS]
                    refine wg (i := 6) (j := 10) rfl rfl (by kernel_rfl) (fun K hK => ?_) (fun K hK => ?_)
                    · skip
                      go_simp
                      refine (MY1.out _ _ _ (HW.out _ HI.out).a.e HAT.out).mono ?_
                      rintro e V ⟨rfl, hb⟩
                      replace HI := Lib.hid (HI.out.trans (hb.mono HI.out.size))
                      try replace HZB := Lib.hid (HZB.out.go hb)
                      clear hb HAT
                      dsimp only
                      refine hK.out _ _ (by first | exact HI.out | exact HI.out.drew) (fun hHeld => ?_)
                      clear hK K
                      try simp only [aP, sA, sZ, sS]
                      refine tq (i := 7) (d := some 85) rfl rfl ?_
                      try simp only [aP, sA, sZ, sS]
                      refine tq (i := 8) (d := some 93) rfl rfl ?_
                      try simp only [aP, sA, sZ, sS]
                      refine tq (i := 9) (d := some 94) rfl rfl ?_
                      try simp only [aP, sA, sZ, sS]
                      refine og (i := 10) rfl (by kernel_rfl) (fun K hK => ?_)
                      go_simp
                      have hb5 : Below V.heap.size V (V.alloc (.cells Tryz.zeroCells30 30)) := below_new _
                      have HZB := Lib.hid (show PB (V.alloc (.cells Tryz.zeroCells30 30)) V.heap.size (fun _ => 0) by rw [zeroPosY]; exact PB.new rfl)
                      have HHL := Lib.hid (show wr.heap.size ≤ V.heap.size from HI.out.size)
                      replace HI := Lib.hid (HI.out.trans (hb5.mono HI.out.size))
                      try replace HAT := Lib.hid ((HAT.out.below hb5).mono hb5.size)
                      clear hb5
                      generalize V.heap.size = HH at HZB HHL ⊢
                      generalize V.alloc (.cells Tryz.zeroCells30 30) = V at *
                      refine hK.out _ _ (by first | exact HI.out | exact HI.out.drew) (fun hHeld => ?_)
                      clear hK K
                      try simp only [aP, sA, sZ, sS]
                      refine og (i := 11) rfl (by kernel_rfl) (fun K hK => ?_)
                      rw [if_pos (by rfl)]
                      refine wp_store_mid 30 _ _ rfl HH 0 V5 rfl rfl (by rw [H5.out, pc_size]; exact HZB.out.there) (by rw [infoPos, H5.out, pc_size]) (by rw [H5.out]; exact pc_one _) ?_
                      rw [HVL5.out]
                      have HNB := Lib.hid (HZB.out.store (Q := N1))
                      replace HI := Lib.hid (below_store (b := HH) N1 HI.out HHL.out HI.out.size)
                      generalize V.setCells HH 0 (pc N1) = V at HNB HI ⊢
                      refine hK.out _ _ (by first | exact HI.out | exact HI.out.drew) (fun hHeld => ?_)
                      clear hK K
                      try simp only [aP, sA, sZ, sS]
                      refine tq (i := 12) (d := some 16) rfl rfl ?_
                      try simp only [aP, sA, sZ, sS]
                      refine wpAnyH_done (by kernel_rfl) ?_ _
                      refine NoPanic.normal ?_
                      clear hHeld
                      go_wp2_with fail
                      go_meet
                      exact ⟨HH, rfl, rfl, HNB.out, HI.out⟩
                    · skip
                      go_simp
                      have hb5 : Below V.heap.size V (V.alloc (.cells Tryz.zeroCells30 30)) := below_new _
                      have HZB := Lib.hid (show PB (V.alloc (.cells Tryz.zeroCells30 30)) V.heap.size (fun _ => 0) by rw [zeroPosY]; exact PB.new rfl)
                      have HHL := Lib.hid (show wr.heap.size ≤ V.heap.size from HI.out.size)
                      replace HI := Lib.hid (HI.out.trans (hb5.mono HI.out.size))
                      try replace HAT := Lib.hid ((HAT.out.below hb5).mono hb5.size)
                      clear hb5
                      generalize V.heap.size = HH at HZB HHL ⊢
                      generalize V.alloc (.cells Tryz.zeroCells30 30) = V at *
                      refine hK.out _ _ (by first | exact HI.out | exact HI.out.drew) (fun hHeld => ?_)
                      clear hK K
                      try simp only [aP, sA, sZ, sS]
                      refine og (i := 6) rfl (by kernel_rfl) (fun K hK => ?_)
                      go_simp
                      refine (MY1.out _ _ _ (HW.out _ HI.out).a.e HAT.out).mono ?_
                      rintro e V ⟨rfl, hb⟩
                      replace HI := Lib.hid (HI.out.trans (hb.mono HI.out.size))
                      try replace HZB := Lib.hid (HZB.out.go hb)
                      clear hb HAT
                      dsimp only
                      refine hK.out _ _ (by first | exact HI.out | exact HI.out.drew) (fun hHeld => ?_)
                      clear hK K
                      try simp only [aP, sA, sZ, sS]
                      refine tq (i := 7) (d := some 85) rfl rfl ?_
                      try simp only [aP, sA, sZ, sS]
                      refine tq (i := 8) (d := some 93) rfl rfl ?_
                      try simp only [aP, sA, sZ, sS]
                      refine tq (i := 9) (d := some 94) rfl rfl ?_
                      try simp only [aP, sA, sZ, sS]
                      refine og (i := 11) rfl (by kernel_rfl) (fun K hK => ?_)
                      rw [if_pos (by rfl)]
                      refine wp_store_mid 30 _ _ rfl HH 0 V5 rfl rfl (by rw [H5.out, pc_size]; exact HZB.out.there) (by rw [infoPos, H5.out, pc_size]) (by rw [H5.out]; exact pc_one _) ?_
                      rw [HVL5.out]
                      have HNB := Lib.hid (HZB.out.store (Q := N1))
                      replace HI := Lib.hid (below_store (b := HH) N1 HI.out HHL.out HI.out.size)
                      generalize V.setCells HH 0 (pc N1) = V at HNB HI ⊢
                      refine hK.out _ _ (by first | exact HI.out | exact HI.out.drew) (fun hHeld => ?_)
                      clear hK K
                      try simp only [aP, sA, sZ, sS]
                      refine tq (i := 12) (d := some 16) rfl rfl ?_
                      try simp only [aP, sA, sZ, sS]
                      refine wpAnyH_done (by kernel_rfl) ?_ _
                      refine NoPanic.normal ?_
                      clear hHeld
                      go_wp2_with fail
                      go_meet
                      exact ⟨HH, rfl, rfl, HNB.out, HI.out⟩
                  · skip
                    go_simp
                    have hb5 : Below V.heap.size V (V.alloc (.cells Tryz.zeroCells30 30)) := below_new _
                    have HZB := Lib.hid (show PB (V.alloc (.cells Tryz.zeroCells30 30)) V.heap.size (fun _ => 0) by rw [zeroPosY]; exact PB.new rfl)
                    have HHL := Lib.hid (show wr.heap.size ≤ V.heap.size from HI.out.size)
                    replace HI := Lib.hid (HI.out.trans (hb5.mono HI.out.size))
                    try replace HAT := Lib.hid ((HAT.out.below hb5).mono hb5.size)
                    clear hb5
                    generalize V.heap.size = HH at HZB HHL ⊢
                    generalize V.alloc (.cells Tryz.zeroCells30 30) = V at *
                    refine hK.out _ _ (by first | exact HI.out | exact HI.out.drew) (fun hHeld => ?_)
                    clear hK K
                    try simp only [aP, sA, sZ, sS]
                    refine og (i := 5) rfl (by kernel_rfl) (fun K hK => ?_)
                    go_simp
                    have hb : Below V.heap.size V (V.alloc (.cells #[.int .i64 s, .int .i64 t, .int .i64 k] 52)) := below_new _
                    have HAT := Lib.hid (one_row12 V s t k)
                    replace HI := Lib.hid (HI.out.trans (hb.mono HI.out.size))
                    try replace HZB := Lib.hid (HZB.out.go hb)
                    clear hb
                    generalize V.alloc (.cells #[.int .i64 s, .int .i64 t, .int .i64 k] 52) = V at *
                    refine hK.out _ _ (by first | exact HI.out | exact HI.out.drew) (fun hHeld => ?_)
                    clear hK K
                    try simp only [aP, sA, sZ, sS]
                    refine og (i := 6) rfl (by kernel_rfl) (fun K hK => ?_)
                    go_simp
                    refine (MY1.out _ _ _ (HW.out _ HI.out).a.e HAT.out).mono ?_
                    rintro e V ⟨rfl, hb⟩
                    replace HI := Lib.hid (HI.out.trans (hb.mono HI.out.size))
                    try replace HZB := Lib.hid (HZB.out.go hb)
                    clear hb HAT
                    dsimp only
                    refine hK.out _ _ (by first | exact HI.out | exact HI.out.drew) (fun hHeld => ?_)
                    clear hK K
                    try simp only [aP, sA, sZ, sS]
                    refine tq (i := 7) (d := some 85) rfl rfl ?_
                    try simp only [aP, sA, sZ, sS]
                    refine tq (i := 8) (d := some 93) rfl rfl ?_
                    try simp only [aP, sA, sZ, sS]
                    refine tq (i := 9) (d := some 94) rfl rfl ?_
                    try simp only [aP, sA, sZ, sS]
                    refine og (i := 11) rfl (by kernel_rfl) (fun K hK => ?_)
                    rw [if_pos (by rfl)]
                    refine wp_store_mid 30 _ _ rfl HH 0 V5 rfl rfl (by rw [H5.out, pc_size]; exact HZB.out.there) (by rw [infoPos, H5.out, pc_size]) (by rw [H5.out]; exact pc_one _) ?_
                    rw [HVL5.out]
                    have HNB := Lib.hid (HZB.out.store (Q := N1))
                    replace HI := Lib.hid (below_store (b := HH) N1 HI.out HHL.out HI.out.size)
                    generalize V.setCells HH 0 (pc N1) = V at HNB HI ⊢
                    refine hK.out _ _ (by first | exact HI.out | exact HI.out.drew) (fun hHeld => ?_)
                    clear hK K
                    try simp only [aP, sA, sZ, sS]
                    refine tq (i := 12) (d := some 16) rfl rfl ?_
                    try simp only [aP, sA, sZ, sS]
                    refine wpAnyH_done (by kernel_rfl) ?_ _
                    refine NoPanic.normal ?_
                    clear hHeld
                    go_wp2_with fail
                    go_meet
                    exact ⟨HH, rfl, rfl, HNB.out, HI.out⟩
                case rest =>
                obtain ⟨H, rfl, rfl, h1, h2⟩ := hcut
                have HPN := Lib.hid h1
                have HIN := Lib.hid h2
                clear h1 h2
                go_upto_region 23 with (fail)
                refine forget_B (fun W => PB W H N1 ∧ Below wr.heap.size wr W) ⟨HPN.out, HIN.out⟩ ?_
                clear HPN HIN
                rintro wx ⟨h1, h2⟩
                have HW2 := Lib.hid (show ∀ W, Below wx.heap.size wx W → IL B lb P Ls (some ⟨pb, po, none⟩) (some ⟨pb2, po2, none⟩) n F T K W0 W ∧ PB W H N1 from fun W g => ⟨(HW.out _ h2).go g, h1.go g⟩)
                replace HI := Lib.hid (Below.refl wx.heap.size wx)
                clear h1 h2 HW MY1
                go_cut [17, 18] from 95 to 107 (fun v17 v18 wy => ∃ H2, v17 = .pointer (some ⟨H2, 0, none⟩) ∧ v18 = .int .i64 0 ∧ PB wy H2 N2 ∧ Below wx.heap.size wx wy)
                case first =>
                  refine wp_region_noPanic ?_
                  refine wp_region_start (n := 16) (l := #[ff, ff, ff, ff, ff, ff, ff, ff, ff, ff, ff, ff, ff, ff, ff, ff]) (S := (fun W => Below wx.heap.size wx W)) (by kernel_rfl) rfl (by kernel_rfl) (by first | exact HI.out | exact HI.out.drew) (fun hHeld => ?_)
                  replace HI := Lib.hid (show Below wx.heap.size wx _ from HI.out.drew)
                  generalize hdw : wx.drew = U at *
                  clear hdw
                  refine tq (i := 0) (d := some 96) rfl rfl ?_
                  try simp only [aP, sA, sZ, sS]
                  refine tq (i := 1) (d := some 97) rfl rfl ?_
                  try simp only [aP, sA, sZ, sS]
                  refine tq (i := 2) (d := some 98) rfl rfl ?_
                  try simp only [aP, sA, sZ, sS]
                  refine tg (i := 3) (d := some 99) (v := (.agg V)) rfl rfl ?_ ?_
                  · exact yields_posAt (by rfl) _ (by rfl) lb (i * 133) L V HV.out (by rfl) (fun W h => HRL.out W (HW2.out W h).1.a)
                  try simp only [aP, sA, sZ, sS]
                  refine tq (i := 4) (d := some 100) rfl rfl ?_
                  try simp only [aP, sA, sZ, sS]
                  refine tq (i := 5) (d := some 101) rfl rfl ?_
                  try simp only [aP, sA, sZ, sS]
                  refine tq (i := 6) (d := some 102) rfl rfl ?_
                  try simp only [aP, sA, sZ, sS]
                  refine tg (i := 7) (d := some 103) (v := (.agg #[.int .i64 s, .int .i64 t, .int .i64 k])) rfl rfl ?_ ?_
                  · refine Or.inl ⟨by rfl, ?_⟩; intro w' hSw; (try dsimp only at hSw); obtain ⟨e0, e1, e2⟩ := HC2.out w' (HW2.out w' hSw).1; go_simp
                  try simp only [aP, sA, sZ, sS]
                  refine wg (i := 8) (j := 13) rfl rfl (by kernel_rfl) (fun K hK => ?_) (fun K hK => ?_)
                  · skip
                    go_simp
                    have hb : Below U.heap.size U (U.alloc (.cells #[.int .i64 s, .int .i64 t, .int .i64 k] 52)) := below_new _
                    have HAT := Lib.hid (one_row12 U s t k)
                    replace HI := Lib.hid (HI.out.trans (hb.mono HI.out.size))
                    try replace HZB := Lib.hid (HZB.out.go hb)
                    clear hb
                    generalize U.alloc (.cells #[.int .i64 s, .int .i64 t, .int .i64 k] 52) = U at *
                    refine hK.out _ _ (by first | exact HI.out | exact HI.out.drew) (fun hHeld => ?_)
                    clear hK K
                    try simp only [aP, sA, sZ, sS]
                    refine wg (i := 9) (j := 13) rfl rfl (by kernel_rfl) (fun K hK => ?_) (fun K hK => ?_)
                    · skip
                      go_simp
                      refine (MY2.out _ _ _ (HW2.out _ HI.out).1.a.e HAT.out).mono ?_
                      rintro e U ⟨rfl, hb⟩
                      replace HI := Lib.hid (HI.out.trans (hb.mono HI.out.size))
                      try replace HZB := Lib.hid (HZB.out.go hb)
                      clear hb HAT
                      dsimp only
                      refine hK.out _ _ (by first | exact HI.out | exact HI.out.drew) (fun hHeld => ?_)
                      clear hK K
                      try simp only [aP, sA, sZ, sS]
                      refine tq (i := 10) (d := some 95) rfl rfl ?_
                      try simp only [aP, sA, sZ, sS]
                      refine tq (i := 11) (d := some 106) rfl rfl ?_
                      try simp only [aP, sA, sZ, sS]
                      refine tq (i := 12) (d := some 107) rfl rfl ?_
                      try simp only [aP, sA, sZ, sS]
                      refine og (i := 13) rfl (by kernel_rfl) (fun K hK => ?_)
                      go_simp
                      have hb5 : Below U.heap.size U (U.alloc (.cells Tryz.zeroCells30 30)) := below_new _
                      have HZB := Lib.hid (show PB (U.alloc (.cells Tryz.zeroCells30 30)) U.heap.size (fun _ => 0) by rw [zeroPosY]; exact PB.new rfl)
                      have HHL := Lib.hid (show wx.heap.size ≤ U.heap.size from HI.out.size)
                      replace HI := Lib.hid (HI.out.trans (hb5.mono HI.out.size))
                      try replace HAT := Lib.hid ((HAT.out.below hb5).mono hb5.size)
                      clear hb5
                      generalize U.heap.size = HH at HZB HHL ⊢
                      generalize U.alloc (.cells Tryz.zeroCells30 30) = U at *
                      refine hK.out _ _ (by first | exact HI.out | exact HI.out.drew) (fun hHeld => ?_)
                      clear hK K
                      try simp only [aP, sA, sZ, sS]
                      refine og (i := 14) rfl (by kernel_rfl) (fun K hK => ?_)
                      rw [if_pos (by rfl)]
                      refine wp_store_mid 30 _ _ rfl HH 0 V6 rfl rfl (by rw [H6.out, pc_size]; exact HZB.out.there) (by rw [infoPos, H6.out, pc_size]) (by rw [H6.out]; exact pc_one _) ?_
                      rw [HVL6.out]
                      have HNB := Lib.hid (HZB.out.store (Q := N2))
                      replace HI := Lib.hid (below_store (b := HH) N2 HI.out HHL.out HI.out.size)
                      generalize U.setCells HH 0 (pc N2) = U at HNB HI ⊢
                      refine hK.out _ _ (by first | exact HI.out | exact HI.out.drew) (fun hHeld => ?_)
                      clear hK K
                      try simp only [aP, sA, sZ, sS]
                      refine tq (i := 15) (d := some 18) rfl rfl ?_
                      try simp only [aP, sA, sZ, sS]
                      refine wpAnyH_done (by kernel_rfl) ?_ _
                      refine NoPanic.normal ?_
                      clear hHeld
                      go_wp2_with fail
                      go_meet
                      exact ⟨HH, rfl, rfl, HNB.out, HI.out⟩
                    · skip
                      go_simp
                      have hb5 : Below U.heap.size U (U.alloc (.cells Tryz.zeroCells30 30)) := below_new _
                      have HZB := Lib.hid (show PB (U.alloc (.cells Tryz.zeroCells30 30)) U.heap.size (fun _ => 0) by rw [zeroPosY]; exact PB.new rfl)
                      have HHL := Lib.hid (show wx.heap.size ≤ U.heap.size from HI.out.size)
                      replace HI := Lib.hid (HI.out.trans (hb5.mono HI.out.size))
                      try replace HAT := Lib.hid ((HAT.out.below hb5).mono hb5.size)
                      clear hb5
                      generalize U.heap.size = HH at HZB HHL ⊢
                      generalize U.alloc (.cells Tryz.zeroCells30 30) = U at *
                      refine hK.out _ _ (by first | exact HI.out | exact HI.out.drew) (fun hHeld => ?_)
                      clear hK K
                      try simp only [aP, sA, sZ, sS]
                      refine og (i := 9) rfl (by kernel_rfl) (fun K hK => ?_)
                      go_simp
                      refine (MY2.out _ _ _ (HW2.out _ HI.out).1.a.e HAT.out).mono ?_
                      rintro e U ⟨rfl, hb⟩
                      replace HI := Lib.hid (HI.out.trans (hb.mono HI.out.size))
                      try replace HZB := Lib.hid (HZB.out.go hb)
                      clear hb HAT
                      dsimp only
                      refine hK.out _ _ (by first | exact HI.out | exact HI.out.drew) (fun hHeld => ?_)
                      clear hK K
                      try simp only [aP, sA, sZ, sS]
                      refine tq (i := 10) (d := some 95) rfl rfl ?_
                      try simp only [aP, sA, sZ, sS]
                      refine tq (i := 11) (d := some 106) rfl rfl ?_
                      try simp only [aP, sA, sZ, sS]
                      refine tq (i := 12) (d := some 107) rfl rfl ?_
                      try simp only [aP, sA, sZ, sS]
                      refine og (i := 14) rfl (by kernel_rfl) (fun K hK => ?_)
                      rw [if_pos (by rfl)]
                      refine wp_store_mid 30 _ _ rfl HH 0 V6 rfl rfl (by rw [H6.out, pc_size]; exact HZB.out.there) (by rw [infoPos, H6.out, pc_size]) (by rw [H6.out]; exact pc_one _) ?_
                      rw [HVL6.out]
                      have HNB := Lib.hid (HZB.out.store (Q := N2))
                      replace HI := Lib.hid (below_store (b := HH) N2 HI.out HHL.out HI.out.size)
                      generalize U.setCells HH 0 (pc N2) = U at HNB HI ⊢
                      refine hK.out _ _ (by first | exact HI.out | exact HI.out.drew) (fun hHeld => ?_)
                      clear hK K
                      try simp only [aP, sA, sZ, sS]
                      refine tq (i := 15) (d := some 18) rfl rfl ?_
                      try simp only [aP, sA, sZ, sS]
                      refine wpAnyH_done (by kernel_rfl) ?_ _
                      refine NoPanic.normal ?_
                      clear hHeld
                      go_wp2_with fail
                      go_meet
                      exact ⟨HH, rfl, rfl, HNB.out, HI.out⟩
                  · skip
                    go_simp
                    have hb5 : Below U.heap.size U (U.alloc (.cells Tryz.zeroCells30 30)) := below_new _
                    have HZB := Lib.hid (show PB (U.alloc (.cells Tryz.zeroCells30 30)) U.heap.size (fun _ => 0) by rw [zeroPosY]; exact PB.new rfl)
                    have HHL := Lib.hid (show wx.heap.size ≤ U.heap.size from HI.out.size)
                    replace HI := Lib.hid (HI.out.trans (hb5.mono HI.out.size))
                    try replace HAT := Lib.hid ((HAT.out.below hb5).mono hb5.size)
                    clear hb5
                    generalize U.heap.size = HH at HZB HHL ⊢
                    generalize U.alloc (.cells Tryz.zeroCells30 30) = U at *
                    refine hK.out _ _ (by first | exact HI.out | exact HI.out.drew) (fun hHeld => ?_)
                    clear hK K
                    try simp only [aP, sA, sZ, sS]
                    refine og (i := 8) rfl (by kernel_rfl) (fun K hK => ?_)
                    go_simp
                    have hb : Below U.heap.size U (U.alloc (.cells #[.int .i64 s, .int .i64 t, .int .i64 k] 52)) := below_new _
                    have HAT := Lib.hid (one_row12 U s t k)
                    replace HI := Lib.hid (HI.out.trans (hb.mono HI.out.size))
                    try replace HZB := Lib.hid (HZB.out.go hb)
                    clear hb
                    generalize U.alloc (.cells #[.int .i64 s, .int .i64 t, .int .i64 k] 52) = U at *
                    refine hK.out _ _ (by first | exact HI.out | exact HI.out.drew) (fun hHeld => ?_)
                    clear hK K
                    try simp only [aP, sA, sZ, sS]
                    refine og (i := 9) rfl (by kernel_rfl) (fun K hK => ?_)
                    go_simp
                    refine (MY2.out _ _ _ (HW2.out _ HI.out).1.a.e HAT.out).mono ?_
                    rintro e U ⟨rfl, hb⟩
                    replace HI := Lib.hid (HI.out.trans (hb.mono HI.out.size))
                    try replace HZB := Lib.hid (HZB.out.go hb)
                    clear hb HAT
                    dsimp only
                    refine hK.out _ _ (by first | exact HI.out | exact HI.out.drew) (fun hHeld => ?_)
                    clear hK K
                    try simp only [aP, sA, sZ, sS]
                    refine tq (i := 10) (d := some 95) rfl rfl ?_
                    try simp only [aP, sA, sZ, sS]
                    refine tq (i := 11) (d := some 106) rfl rfl ?_
                    try simp only [aP, sA, sZ, sS]
                    refine tq (i := 12) (d := some 107) rfl rfl ?_
                    try simp only [aP, sA, sZ, sS]
                    refine og (i := 14) rfl (by kernel_rfl) (fun K hK => ?_)
                    rw [if_pos (by rfl)]
                    refine wp_store_mid 30 _ _ rfl HH 0 V6 rfl rfl (by rw [H6.out, pc_size]; exact HZB.out.there) (by rw [infoPos, H6.out, pc_size]) (by rw [H6.out]; exact pc_one _) ?_
                    rw [HVL6.out]
                    have HNB := Lib.hid (HZB.out.store (Q := N2))
                    replace HI := Lib.hid (below_store (b := HH) N2 HI.out HHL.out HI.out.size)
                    generalize U.setCells HH 0 (pc N2) = U at HNB HI ⊢
                    refine hK.out _ _ (by first | exact HI.out | exact HI.out.drew) (fun hHeld => ?_)
                    clear hK K
                    try simp only [aP, sA, sZ, sS]
                    refine tq (i := 15) (d := some 18) rfl rfl ?_
                    try simp only [aP, sA, sZ, sS]
                    refine wpAnyH_done (by kernel_rfl) ?_ _
                    refine NoPanic.normal ?_
                    clear hHeld
                    go_wp2_with fail
                    go_meet
                    exact ⟨HH, rfl, rfl, HNB.out, HI.out⟩
                case rest =>
                obtain ⟨H2, rfl, rfl, h1, h2⟩ := hcut
                have HPN := Lib.hid h1
                have HIN := Lib.hid h2
                clear h1 h2
                go_upto_region 24 with (fail)
                refine forget_B (fun W => PB W H2 N2 ∧ Below wx.heap.size wx W) ⟨HPN.out, HIN.out⟩ ?_
                clear HPN HIN
                rintro wy ⟨h1, h2⟩
                have HZ3 := Lib.hid (show (IL B lb P Ls (some ⟨pb, po, none⟩) (some ⟨pb2, po2, none⟩) n F T K W0 wy ∧ PB wy H N1) ∧ PB wy H2 N2 from ⟨HW2.out _ h2, h1⟩)
                clear h1 h2 HW2 MY2 HI
                refine wp_region_noPanic ?_
                refine wp_region_start (n := 23) (l := #[ff, ff, ff, ff, ff, ff, ff, ff, ff, ff, ff, ff, ff, ff, ff, ff, ff, ff, ff, ff, ff, ff, ff]) (S := (fun W => (IL B lb P Ls (some ⟨pb, po, none⟩) (some ⟨pb2, po2, none⟩) n F T K W0 W ∧ PB W H N1) ∧ PB W H2 N2)) (by kernel_rfl) rfl (by kernel_rfl) (by first | exact HZ3.out | exact ⟨⟨HZ3.out.1.1.go (Below.refl _ _).drew, HZ3.out.1.2.go (Below.refl _ _).drew⟩, HZ3.out.2.go (Below.refl _ _).drew⟩) (fun hHeld => ?_)
                replace HZ3 := Lib.hid (And.intro (And.intro (HZ3.out.1.1.go (Below.refl _ _).drew) (HZ3.out.1.2.go (Below.refl _ _).drew)) (HZ3.out.2.go (Below.refl _ _).drew))
                refine tq (i := 0) (d := some 108) rfl rfl ?_
                try simp only [aP, sA, sZ, sS]
                refine tq (i := 1) (d := some 109) rfl rfl ?_
                try simp only [aP, sA, sZ, sS]
                refine tq (i := 2) (d := some 110) rfl rfl ?_
                try simp only [aP, sA, sZ, sS]
                refine tg (i := 3) (d := some 111) (v := (.agg #[.int .i64 s, .int .i64 t, .int .i64 k])) rfl rfl ?_ ?_
                · refine Or.inl ⟨by rfl, ?_⟩; intro w' hSw; (try dsimp only at hSw); obtain ⟨e0, e1, e2⟩ := HC1.out w' hSw.1.1; go_simp
                try simp only [aP, sA, sZ, sS]
                refine tq (i := 4) (d := some 112) rfl rfl ?_
                try simp only [aP, sA, sZ, sS]
                refine tq (i := 5) (d := some 113) rfl rfl ?_
                try simp only [aP, sA, sZ, sS]
                refine tq (i := 6) (d := some 114) rfl rfl ?_
                try simp only [aP, sA, sZ, sS]
                refine tg (i := 7) (d := some 115) (v := (.agg #[.int .i64 s, .int .i64 t, .int .i64 k])) rfl rfl ?_ ?_
                · refine Or.inl ⟨by rfl, ?_⟩; intro w' hSw; (try dsimp only at hSw); obtain ⟨e0, e1, e2⟩ := HC2.out w' hSw.1.1; go_simp
                try simp only [aP, sA, sZ, sS]
                refine tq (i := 8) (d := some 116) rfl rfl ?_
                try simp only [aP, sA, sZ, sS]
                refine tq (i := 9) (d := some 117) rfl rfl ?_
                try simp only [aP, sA, sZ, sS]
                refine tq (i := 10) (d := some 118) rfl rfl ?_
                try simp only [aP, sA, sZ, sS]
                refine tq (i := 11) (d := some 119) rfl rfl ?_
                try simp only [aP, sA, sZ, sS]
                refine tq (i := 12) (d := some 120) rfl rfl ?_
                try simp only [aP, sA, sZ, sS]
                refine tq (i := 13) (d := some 121) rfl rfl ?_
                try simp only [aP, sA, sZ, sS]
                refine tq (i := 14) (d := some 122) rfl rfl ?_
                try simp only [aP, sA, sZ, sS]
                refine tq (i := 15) (d := some 123) rfl rfl ?_
                try simp only [aP, sA, sZ, sS]
                refine tq (i := 16) (d := some 124) rfl rfl ?_
                try simp only [aP, sA, sZ, sS]
                refine tq (i := 17) (d := some 125) rfl rfl ?_
                try simp only [aP, sA, sZ, sS]
                refine tg (i := 18) (d := some 126) (v := (.agg V5)) rfl rfl ?_ ?_
                · exact yields_posC (by rfl) _ (by rfl) H N1 V5 H5.out (by rfl) (fun W h => h.1.2)
                try simp only [aP, sA, sZ, sS]
                refine tg (i := 19) (d := some 127) (v := (.agg V6)) rfl rfl ?_ ?_
                · exact yields_posC (by rfl) _ (by rfl) H2 N2 V6 H6.out (by rfl) (fun W h => h.2)
                try simp only [aP, sA, sZ, sS]
                refine og (i := 20) rfl (by kernel_rfl) (fun K hK => ?_)
                go_simp
                refine (MS3.out _ HZ3.out.1.1.a.e).mono ?_
                rintro e U ⟨rfl, hb⟩
                replace HZ3 := Lib.hid (And.intro (And.intro (HZ3.out.1.1.go hb) (HZ3.out.1.2.go hb)) (HZ3.out.2.go hb))
                clear hb
                dsimp only
                refine hK.out _ _ (by first | exact HZ3.out | exact ⟨⟨HZ3.out.1.1.go (Below.refl _ _).drew, HZ3.out.1.2.go (Below.refl _ _).drew⟩, HZ3.out.2.go (Below.refl _ _).drew⟩) (fun hHeld => ?_)
                clear hK K
                try simp only [aP, sA, sZ, sS]
                refine tq (i := 21) (d := some 129) rfl rfl ?_
                try simp only [aP, sA, sZ, sS]
                refine tq (i := 22) (d := some 130) rfl rfl ?_
                try simp only [aP, sA, sZ, sS]
                refine wpAnyH_done (by kernel_rfl) ?_ _
                refine NoPanic.normal ?_
                clear hHeld
                go_wp2
                go_roundw
                case rel => exact ⟨m + 1, by omega, by go_num, HZ3.out.1.1⟩
                case measure => simp [intOf]; omega
              · obtain rfl : m = n := by omega
                go_wp2
                go_roundw
                case rel => exact ⟨i + 1, by omega, by go_num, hil.a⟩
                case measure => simp [intOf]; omega
      · obtain rfl : i = 2 := by omega
        go_wp2
        go_ret
        exact ⟨rfl, HA.out.bl⟩
end Go.Proofs.YtcdnakbdajbfoaaGreatDoor
