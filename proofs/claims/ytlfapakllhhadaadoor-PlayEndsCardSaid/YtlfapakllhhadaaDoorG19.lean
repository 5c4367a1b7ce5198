/-
  Merged: Pt, Pu.
-/
import Derived.Test.YtlfapakllhhadaaDoorG18
import Derived.Test.YtlfapakllhhadaaDoorG1
import Derived.Test.YtlfapakllhhadaaDoorG13
import Derived.Deep.CutRange
import Derived.Test.YtlfapakllhhadaaDoorG12
import Derived.Test.YtlfapakllhhadaaDoorG9

namespace Go.Proofs.YtlfapakllhhadaaDoor
open Go.RowKit Go.Sort
set_option linter.unusedSimpArgs false
set_option linter.unusedVariables false
set_option maxRecDepth 20000

theorem MS.other {w W : World} {Q : Nat → Int} {B : Nat} {p : Option Addr} {n : Nat} {F T K : Nat → Int} (h : MS w W Q B p n F T K) (hB : B ≤ w.heap.size) {H : Nat} (hH : w.heap.size + 2 ≤ H) (R : Nat → Int) : MS w (W.setCells H 0 (pc R)) Q B p n F T K :=
  ⟨h.q.others (by omega) 0 _, h.z.others (by omega) 0 _, below_store (b := H) R h.b (by omega) h.b.size, h.r.below (below_store (b := H) R (Below.refl B W) (by omega) (Nat.le_trans hB h.b.size)), by rw [sizes_B]; exact h.s⟩
set_option maxHeartbeats 4000000 in
set_option maxRecDepth 100000 in
theorem rMoves_any (P : Nat → Int) (p : Option Addr) (n c : Nat) (F T G : Nat → Int) (w : World) (B : Nat) (hn : n ≤ 4294967295) (hr : Reads3 B w p n F T G) (hB : B ≤ w.heap.size) :
    Calls Tryd.prog 45 #[.agg (pc P).toArray, .slice p n c] w fun e w' => e = .returned (.tuple #[.agg (pc (mvsR P F T G n)).toArray, .int .i64 (mvsE P F T G n)]) ∧ Below w.heap.size w w' := by
  obtain ⟨X, hX⟩ : ∃ X, X = (pc P).toArray := ⟨_, rfl⟩
  obtain ⟨Z, hZ⟩ : ∃ Z, Z = (pc (mvsR P F T G n)).toArray := ⟨_, rfl⟩
  rw [← hX, ← hZ]
  have HI := Lib.hid (MS.begin w P X hX hB hr)
  have HSTOP := Lib.hid (fun j => mvsE_stop P F T G j n)
  have HGO := Lib.hid (mvsE_go P F T G)
  have HNX := Lib.hid (show ∀ j, mvP (mvsP P F T G j) (F j) (T j) (G j) = mvsP P F T G (j + 1) from fun _ => rfl)
  have HR := Lib.hid (show ∀ e, mvsE P F T G n = e → mvsR P F T G n = if e = 0 then mvsP P F T G n else fun _ => 0 from fun e h => by unfold mvsR; rw [h])
  have HZ := Lib.hid hZ
  have HX := Lib.hid hX
  have HB := Lib.hid hB
  have HM := Lib.hid (fun Q f t k W => rMove_any Q f t k W)
  clear hX hZ hr hB
  go_enter Tryd.func45, Tryd.ntmps45
  go_upto_region 1 with (fail)
  refine forget_B (fun W => MS w W P B p n F T G) HI.out ?_
  clear HI
  intro W hi
  have HI := Lib.hid hi
  clear hi
  go_wp2
  go_loopw [6] (fun v wr => ∃ j : Nat, j ≤ n ∧ v = .int .i64 (j : Int) ∧ MS w wr (mvsP P F T G j) B p n F T G ∧ mvsE P F T G j = 0) (fun v _ => n - (intOf v).toNat)
  case atStart => exact ⟨0, Nat.zero_le _, rfl, HI.out, rfl⟩
  case round =>
    clear HI
    obtain ⟨j, hj, rfl, h1, h2⟩ := hrel
    have HI := Lib.hid h1
    have H2 := Lib.hid h2
    clear h1 h2
    by_cases hlt : j < n
    · obtain ⟨pb, po, rfl⟩ := HI.out.r.addr hlt
      obtain ⟨e0, e1, e2⟩ := HI.out.r.cells hlt
      have hst := fun h => HSTOP.out j hlt H2.out h
      have hgo := HGO.out j H2.out
      have hnx := HNX.out j
      have hlt0 := HI.out.b.size
      obtain ⟨fj, hfj⟩ : ∃ x, F j = x := ⟨_, rfl⟩
      obtain ⟨tj, htj⟩ : ∃ x, T j = x := ⟨_, rfl⟩
      obtain ⟨kj, hkj⟩ : ∃ x, G j = x := ⟨_, rfl⟩
      rw [hfj, htj, hkj] at hst hgo hnx
      have HFJ := Lib.hid (show F j = fj ∧ T j = tj ∧ G j = kj from ⟨hfj, htj, hkj⟩)
      have HLT := Lib.hid hlt
      generalize hQ : mvsP P F T G j = Q at *
      have HM1 := Lib.hid (fun W => HM.out Q fj tj kj W)
      obtain ⟨Y, hY⟩ : ∃ Y, Y = (pc Q).toArray := ⟨_, rfl⟩
      obtain ⟨VV, hV⟩ : ∃ V, V = (pc (mvP Q fj tj kj)).toArray := ⟨_, rfl⟩
      rw [← hY, ← hV] at HM1
      obtain ⟨E, hE⟩ : ∃ E, fltN (handP Q) fj tj kj = E := ⟨_, rfl⟩
      rw [hE] at HM1 hst hgo
      rw [hnx] at hV
      have HVV := Lib.hid hV
      have HVL := Lib.hid (show VV.toList = pc (mvsP P F T G (j + 1)) by rw [hV])
      have HY := Lib.hid hY
      have HST := Lib.hid hst
      have HGG := Lib.hid hgo
      clear hQ hY hV hE hst hgo hnx hfj htj hkj e0 e1 e2
      go_upto_region 4 with (fail)
      go_cut [7, 8] from 9 to 28 (fun v ev wx => ∃ H : Nat, v = .pointer (some ⟨H, 0, none⟩) ∧ ev = .int .i64 E ∧ PB wx H (mvsP P F T G (j + 1)) ∧ MS w wx Q B (some ⟨pb, po, none⟩) n F T G)
      case first =>
        refine wp_region_noPanic ?_
        refine wp_region_start (n := 12) (l := #[false, false, false, false, false, false, false, false, false, false, false, false]) (S := (fun W => MS w W Q B (some ⟨pb, po, none⟩) n F T G)) (by kernel_rfl) rfl (by kernel_rfl) (by first | exact HI.out | exact MS.go HB.out HI.out (Below.refl _ _).drew) (fun hHeld => ?_)
        replace HI := Lib.hid (MS.go HB.out HI.out (Below.refl wr.heap.size wr).drew)
        generalize wr.drew = V at hHeld HI ⊢
        refine take_to (i := 0) (d := some 16) (v := (.agg Y)) (l' := #[true, false, false, false, false, false, false, false, false, false, false, false]) rfl rfl (by kernel_rfl) (by kernel_rfl) (by kernel_rfl) (by kernel_rfl) (fun _ _ _ h => h) ?_ (by assumption) ?_
        · exact yields_posC (by rfl) _ (by rfl) w.heap.size Q Y HY.out (by rfl) (fun W h => h.q)
        try simp only [Act.put, List.setIfInBounds_toArray, List.set_cons_zero, List.set_cons_succ]
        refine take_to (i := 1) (d := some 17) (v := ?_) (l' := #[true, true, false, false, false, false, false, false, false, false, false, false]) rfl rfl (by kernel_rfl) (by kernel_rfl) (by kernel_rfl) (by kernel_rfl) (fun _ _ _ h => h) (Or.inl ⟨by rfl, ?_⟩) (by assumption) ?_; rotate_left; · (intro w' hSw; (try dsimp only at hSw); go_simp; (try with_reducible rfl))
        try simp only [Act.put, List.setIfInBounds_toArray, List.set_cons_zero, List.set_cons_succ]
        refine take_to (i := 2) (d := some 18) (v := ?_) (l' := #[true, true, true, false, false, false, false, false, false, false, false, false]) rfl rfl (by kernel_rfl) (by kernel_rfl) (by kernel_rfl) (by kernel_rfl) (fun _ _ _ h => h) (Or.inl ⟨by rfl, ?_⟩) (by assumption) ?_; rotate_left; · (intro w' hSw; (try dsimp only at hSw); go_simp; (try with_reducible rfl))
        try simp only [Act.put, List.setIfInBounds_toArray, List.set_cons_zero, List.set_cons_succ]
        refine take_to (i := 3) (d := some 19) (v := ?_) (l' := #[true, true, true, true, false, false, false, false, false, false, false, false]) rfl rfl (by kernel_rfl) (by kernel_rfl) (by kernel_rfl) (by kernel_rfl) (fun _ _ _ h => h) (Or.inl ⟨by rfl, ?_⟩) (by assumption) ?_; rotate_left; · (intro w' hSw; (try dsimp only at hSw); go_simp; (try with_reducible rfl))
        try simp only [Act.put, List.setIfInBounds_toArray, List.set_cons_zero, List.set_cons_succ]
        refine take_to (i := 4) (d := some 20) (v := (.agg #[.int .i64 fj, .int .i64 tj, .int .i64 kj])) (l' := #[true, true, true, true, true, false, false, false, false, false, false, false]) rfl rfl (by kernel_rfl) (by kernel_rfl) (by kernel_rfl) (by kernel_rfl) (fun _ _ _ h => h) ?_ (by assumption) ?_
        · refine Or.inl ⟨by rfl, ?_⟩; intro w' hSw; obtain ⟨c0, c1, c2⟩ := hSw.r.cells HLT.out; rw [HFJ.out.1] at c0; rw [HFJ.out.2.1] at c1; rw [HFJ.out.2.2] at c2; go_simp
        try simp only [Act.put, List.setIfInBounds_toArray, List.set_cons_zero, List.set_cons_succ]
        refine two_to (i := 5) (j := 9) (l1 := #[true, true, true, true, true, true, false, false, false, false, false, false]) (l2 := #[true, true, true, true, true, false, false, false, false, true, false, false]) rfl rfl (by kernel_rfl) (by kernel_rfl) (by kernel_rfl) (fun K hK => ?_) (fun K hK => ?_)
        · skip
          go_simp
          refine (HM1.out _).mono ?_
          rintro e V ⟨rfl, hb⟩
          replace HI := Lib.hid (MS.go HB.out HI.out hb)
          try replace HZB := Lib.hid (HZB.out.go hb)
          clear hb
          dsimp only
          refine hK.out _ _ (by first | exact HI.out | exact MS.go HB.out HI.out (Below.refl _ _).drew) (fun hHeld => ?_)
          clear hK K
          try simp only [Act.put, List.setIfInBounds_toArray, List.set_cons_zero, List.set_cons_succ]
          refine take_to (i := 6) (d := some 15) (v := ?_) (l' := #[true, true, true, true, true, true, true, false, false, false, false, false]) rfl rfl (by kernel_rfl) (by kernel_rfl) (by kernel_rfl) (by kernel_rfl) (fun _ _ _ h => h) (Or.inl ⟨by rfl, ?_⟩) (by assumption) ?_; rotate_left; · (intro w' hSw; (try dsimp only at hSw); go_simp; (try with_reducible rfl))
          try simp only [Act.put, List.setIfInBounds_toArray, List.set_cons_zero, List.set_cons_succ]
          refine take_to (i := 7) (d := some 22) (v := ?_) (l' := #[true, true, true, true, true, true, true, true, false, false, false, false]) rfl rfl (by kernel_rfl) (by kernel_rfl) (by kernel_rfl) (by kernel_rfl) (fun _ _ _ h => h) (Or.inl ⟨by rfl, ?_⟩) (by assumption) ?_; rotate_left; · (intro w' hSw; (try dsimp only at hSw); go_simp; (try with_reducible rfl))
          try simp only [Act.put, List.setIfInBounds_toArray, List.set_cons_zero, List.set_cons_succ]
          refine take_to (i := 8) (d := some 23) (v := ?_) (l' := #[true, true, true, true, true, true, true, true, true, false, false, false]) rfl rfl (by kernel_rfl) (by kernel_rfl) (by kernel_rfl) (by kernel_rfl) (fun _ _ _ h => h) (Or.inl ⟨by rfl, ?_⟩) (by assumption) ?_; rotate_left; · (intro w' hSw; (try dsimp only at hSw); go_simp; (try with_reducible rfl))
          try simp only [Act.put, List.setIfInBounds_toArray, List.set_cons_zero, List.set_cons_succ]
          refine one_to (i := 9) (l' := #[true, true, true, true, true, true, true, true, true, true, false, false]) rfl (by kernel_rfl) (by kernel_rfl) (fun K hK => ?_)
          go_simp
          have HZB := Lib.hid (show PB (V.alloc (.cells Tryd.zeroCells29 29)) V.heap.size (fun _ => 0) by rw [zeroPos]; exact PB.new rfl)
          have HHL := Lib.hid (show w.heap.size + 2 ≤ V.heap.size from HI.out.s)
          replace HI := Lib.hid (MS.go HB.out HI.out (below_new (.cells Tryd.zeroCells29 29)))
          generalize V.heap.size = H at HZB HHL ⊢
          generalize V.alloc (.cells Tryd.zeroCells29 29) = V at HZB HI ⊢
          refine hK.out _ _ (by first | exact HI.out | exact MS.go HB.out HI.out (Below.refl _ _).drew) (fun hHeld => ?_)
          clear hK K
          try simp only [Act.put, List.setIfInBounds_toArray, List.set_cons_zero, List.set_cons_succ]
          refine one_to (i := 10) (l' := #[true, true, true, true, true, true, true, true, true, true, true, false]) rfl (by kernel_rfl) (by kernel_rfl) (fun K hK => ?_)
          rw [if_pos (by rfl)]
          refine wp_store_mid 29 _ _ rfl H 0 VV rfl rfl (by rw [HVV.out, pc_size]; exact HZB.out.there) (by rw [infoPos, HVV.out, pc_size]) (by rw [HVV.out]; exact pc_one _) ?_
          rw [HVL.out]
          have HNB := Lib.hid (HZB.out.store (Q := mvsP P F T G (j + 1)))
          replace HI := Lib.hid (HI.out.other HB.out HHL.out (mvsP P F T G (j + 1)))
          generalize V.setCells H 0 (pc (mvsP P F T G (j + 1))) = V at HNB HI ⊢
          refine hK.out _ _ (by first | exact HI.out | exact MS.go HB.out HI.out (Below.refl _ _).drew) (fun hHeld => ?_)
          clear hK K
          try simp only [Act.put, List.setIfInBounds_toArray, List.set_cons_zero, List.set_cons_succ]
          refine take_to (i := 11) (d := some 8) (v := ?_) (l' := #[true, true, true, true, true, true, true, true, true, true, true, true]) rfl rfl (by kernel_rfl) (by kernel_rfl) (by kernel_rfl) (by kernel_rfl) (fun _ _ _ h => h) (Or.inl ⟨by rfl, ?_⟩) (by assumption) ?_; rotate_left; · (intro w' hSw; (try dsimp only at hSw); go_simp; (try with_reducible rfl))
          try simp only [Act.put, List.setIfInBounds_toArray, List.set_cons_zero, List.set_cons_succ]
          refine wpAnyH_done (by kernel_rfl) ?_ _
          refine NoPanic.normal ?_
          clear hHeld
          go_wp2_with fail
          go_meet
          exact ⟨H, rfl, rfl, HNB.out, HI.out⟩
        · skip
          go_simp
          have HZB := Lib.hid (show PB (V.alloc (.cells Tryd.zeroCells29 29)) V.heap.size (fun _ => 0) by rw [zeroPos]; exact PB.new rfl)
          have HHL := Lib.hid (show w.heap.size + 2 ≤ V.heap.size from HI.out.s)
          replace HI := Lib.hid (MS.go HB.out HI.out (below_new (.cells Tryd.zeroCells29 29)))
          generalize V.heap.size = H at HZB HHL ⊢
          generalize V.alloc (.cells Tryd.zeroCells29 29) = V at HZB HI ⊢
          refine hK.out _ _ (by first | exact HI.out | exact MS.go HB.out HI.out (Below.refl _ _).drew) (fun hHeld => ?_)
          clear hK K
          try simp only [Act.put, List.setIfInBounds_toArray, List.set_cons_zero, List.set_cons_succ]
          refine one_to (i := 5) (l' := #[true, true, true, true, true, true, false, false, false, true, false, false]) rfl (by kernel_rfl) (by kernel_rfl) (fun K hK => ?_)
          go_simp
          refine (HM1.out _).mono ?_
          rintro e V ⟨rfl, hb⟩
          replace HI := Lib.hid (MS.go HB.out HI.out hb)
          try replace HZB := Lib.hid (HZB.out.go hb)
          clear hb
          dsimp only
          refine hK.out _ _ (by first | exact HI.out | exact MS.go HB.out HI.out (Below.refl _ _).drew) (fun hHeld => ?_)
          clear hK K
          try simp only [Act.put, List.setIfInBounds_toArray, List.set_cons_zero, List.set_cons_succ]
          refine take_to (i := 6) (d := some 15) (v := ?_) (l' := #[true, true, true, true, true, true, true, false, false, true, false, false]) rfl rfl (by kernel_rfl) (by kernel_rfl) (by kernel_rfl) (by kernel_rfl) (fun _ _ _ h => h) (Or.inl ⟨by rfl, ?_⟩) (by assumption) ?_; rotate_left; · (intro w' hSw; (try dsimp only at hSw); go_simp; (try with_reducible rfl))
          try simp only [Act.put, List.setIfInBounds_toArray, List.set_cons_zero, List.set_cons_succ]
          refine take_to (i := 7) (d := some 22) (v := ?_) (l' := #[true, true, true, true, true, true, true, true, false, true, false, false]) rfl rfl (by kernel_rfl) (by kernel_rfl) (by kernel_rfl) (by kernel_rfl) (fun _ _ _ h => h) (Or.inl ⟨by rfl, ?_⟩) (by assumption) ?_; rotate_left; · (intro w' hSw; (try dsimp only at hSw); go_simp; (try with_reducible rfl))
          try simp only [Act.put, List.setIfInBounds_toArray, List.set_cons_zero, List.set_cons_succ]
          refine take_to (i := 8) (d := some 23) (v := ?_) (l' := #[true, true, true, true, true, true, true, true, true, true, false, false]) rfl rfl (by kernel_rfl) (by kernel_rfl) (by kernel_rfl) (by kernel_rfl) (fun _ _ _ h => h) (Or.inl ⟨by rfl, ?_⟩) (by assumption) ?_; rotate_left; · (intro w' hSw; (try dsimp only at hSw); go_simp; (try with_reducible rfl))
          try simp only [Act.put, List.setIfInBounds_toArray, List.set_cons_zero, List.set_cons_succ]
          refine one_to (i := 10) (l' := #[true, true, true, true, true, true, true, true, true, true, true, false]) rfl (by kernel_rfl) (by kernel_rfl) (fun K hK => ?_)
          rw [if_pos (by rfl)]
          refine wp_store_mid 29 _ _ rfl H 0 VV rfl rfl (by rw [HVV.out, pc_size]; exact HZB.out.there) (by rw [infoPos, HVV.out, pc_size]) (by rw [HVV.out]; exact pc_one _) ?_
          rw [HVL.out]
          have HNB := Lib.hid (HZB.out.store (Q := mvsP P F T G (j + 1)))
          replace HI := Lib.hid (HI.out.other HB.out HHL.out (mvsP P F T G (j + 1)))
          generalize V.setCells H 0 (pc (mvsP P F T G (j + 1))) = V at HNB HI ⊢
          refine hK.out _ _ (by first | exact HI.out | exact MS.go HB.out HI.out (Below.refl _ _).drew) (fun hHeld => ?_)
          clear hK K
          try simp only [Act.put, List.setIfInBounds_toArray, List.set_cons_zero, List.set_cons_succ]
          refine take_to (i := 11) (d := some 8) (v := ?_) (l' := #[true, true, true, true, true, true, true, true, true, true, true, true]) rfl rfl (by kernel_rfl) (by kernel_rfl) (by kernel_rfl) (by kernel_rfl) (fun _ _ _ h => h) (Or.inl ⟨by rfl, ?_⟩) (by assumption) ?_; rotate_left; · (intro w' hSw; (try dsimp only at hSw); go_simp; (try with_reducible rfl))
          try simp only [Act.put, List.setIfInBounds_toArray, List.set_cons_zero, List.set_cons_succ]
          refine wpAnyH_done (by kernel_rfl) ?_ _
          refine NoPanic.normal ?_
          clear hHeld
          go_wp2_with fail
          go_meet
          exact ⟨H, rfl, rfl, HNB.out, HI.out⟩
      case rest =>
      obtain ⟨H, rfl, rfl, hnb, hi⟩ := hcut
      have HI := Lib.hid hi
      have HNB := Lib.hid hnb
      clear hi hnb
      by_cases hE0 : E = 0
      · subst hE0
        have HH2 := Lib.hid (HGG.out rfl)
        have HV2 := Lib.hid (show VV = (pc (mvsP P F T G (j + 1))).toArray from HVV.out)
        go_upto_region 7 with (fail)
        refine wp_region_lit ?_
        refine wpList_pos (by rfl) _ (by rfl) H (mvsP P F T G (j + 1)) VV HV2.out (by rfl) HNB.out ?_
        refine wpList_store_mid rfl 29 _ _ rfl w.heap.size 0 VV rfl rfl (by rw [HV2.out, pc_size]; exact HI.out.q.there) (by rw [infoPos, HV2.out, pc_size]) (by rw [HV2.out]; exact pc_one _) ?_
        refine forgetL_B (fun W => MS w W (mvsP P F T G (j + 1)) B (some ⟨pb, po, none⟩) n F T G) (by rw [HVL.out]; exact HI.out.store HB.out _) ?_
        clear HI HNB
        intro W2 hi
        have HI := Lib.hid hi
        clear hi
        go_wp2
        go_roundw
        case rel => exact ⟨j + 1, by omega, by go_num, HI.out, HH2.out⟩
        case measure => simp [intOf]; omega
      · have hE1 : (E != 0) = true := by simp [hE0]
        have HE := Lib.hid (HST.out hE0)
        have HZ2 := Lib.hid (show Z = (pc fun _ => 0).toArray by rw [HZ.out, HR.out E HE.out, if_neg hE0])
        clear hE0
        go_upto_region 6 with (fail)
        refine wp_region_lit ?_
        refine wpList_plain rfl (fun K hK => ?_)
        go_simp
        refine hK _ _ ?_
        clear hK K
        refine wpList_plain rfl (fun K hK => ?_)
        go_simp
        refine hK _ _ ?_
        clear hK K
        refine wpList_store_mid rfl 29 _ _ rfl (w.heap.size + 1) 0 (pc fun _ => 0).toArray rfl (congrArg Value.agg zeroPos) (by rw [pc_size]; exact HI.out.z.there) (by rw [infoPos, pc_size]) (pc_one _) ?_
        rw [List.toList_toArray]
        obtain ⟨hr1, hb1⟩ := HI.out.stored (fun _ => 0)
        have HR1 := Lib.hid hr1
        have HB1 := Lib.hid hb1
        clear hr1 hb1 HI
        generalize wc.setCells (w.heap.size + 1) 0 (pc fun _ => 0) = W8 at HR1 HB1 ⊢
        refine wpList_plain rfl (fun K hK => ?_)
        go_simp
        refine hK _ _ ?_
        clear hK K
        show Exit.then _ _ Exit.normal _ _
        refine ret_go (by assumption) ?_
        repeat (first | refine then_ret ?_ | refine block_ret ?_)
        refine bodyPost_ret (v := .tuple #[.agg (pc fun _ => 0).toArray, .int .i64 E]) ?_ rfl ⟨by rw [HZ2.out, HE.out], HB1.out⟩
        exact results_mid2 (p := 4) (u := 5) (ty := 29) rfl _ W8 (w.heap.size + 1) _ _ _ rfl rfl HR1.out Tryd.underlying29 rfl (by rw [infoPos, pc_len])
    · obtain rfl : j = n := by omega
      have HZ2 := Lib.hid (show Z = (pc (mvsP P F T G j)).toArray by rw [HZ.out, HR.out 0 H2.out, if_pos rfl])
      go_upto_region 8 with (fail)
      refine wp_region_lit ?_
      refine wpList_pos (by rfl) _ (by rfl) w.heap.size (mvsP P F T G j) Z HZ2.out (by rfl) HI.out.q ?_
      refine wpList_store_mid rfl 29 _ _ rfl (w.heap.size + 1) 0 Z rfl rfl (by rw [HZ2.out, pc_size]; exact HI.out.z.there) (by rw [infoPos, HZ2.out, pc_size]) (by rw [HZ2.out]; exact pc_one _) ?_
      refine forgetL_B (fun W => W.rangeAt (w.heap.size + 1) 0 (pc (mvsP P F T G j)) ∧ Below w.heap.size w W) (by rw [HZ2.out, List.toList_toArray]; exact HI.out.stored _) ?_
      rintro W8 ⟨hr1, hb1⟩
      have HR1 := Lib.hid hr1
      have HB1 := Lib.hid hb1
      clear hr1 hb1 HI
      refine wpList_plain rfl (fun K hK => ?_)
      go_simp
      refine hK _ _ ?_
      clear hK K
      show Exit.then _ _ Exit.normal _ _
      refine ret_go (by assumption) ?_
      repeat (first | refine then_ret ?_ | refine block_ret ?_)
      refine bodyPost_ret (v := .tuple #[.agg (pc (mvsP P F T G j)).toArray, .int .i64 0]) ?_ rfl ⟨by rw [HZ2.out, H2.out], HB1.out⟩
      exact results_mid2 (p := 4) (u := 5) (ty := 29) rfl _ W8 (w.heap.size + 1) _ _ _ rfl rfl HR1.out Tryd.underlying29 rfl (by rw [infoPos, pc_len])
end Go.Proofs.YtlfapakllhhadaaDoor

namespace Go.Proofs.YtlfapakllhhadaaDoor
open Go.RowKit Go.Sort
set_option linter.unusedSimpArgs false
set_option linter.unusedVariables false

/-- behind e2 to e4 -/
def oneN : Nat → Int := mvsR startN (fun _ => 12) (fun _ => 28) (fun _ => 0) 1
/-- behind g8 to f6 -/
def twoN : Nat → Int := mvP oneN 62 45 0
theorem one_e : mvsE startN (fun _ => 12) (fun _ => 28) (fun _ => 0) 1 = 0 := by decide +kernel
theorem two_e : fltN (handP oneN) 62 45 0 = 0 := by decide +kernel
theorem one_vals : oneN 130 = 20 ∧ oneN 131 = 0 ∧ oneN 132 = 1 := by decide +kernel
theorem two_vals : twoN 131 = 1 ∧ twoN 132 = 2 ∧ twoN 130 = -1 ∧ twoN 90 = 2 := by decide +kernel
set_option maxHeartbeats 4000000 in
set_option maxRecDepth 100000 in
theorem awakeP_any (w : World) (B : Nat) (hg : GP B w) (hB : B ≤ w.heap.size) :
    Calls Tryd.prog 16 #[] w fun e w' => e = .returned (.bool true) ∧ Below w.heap.size w w' := by
  obtain ⟨X, hX⟩ : ∃ X, X = (pc startN).toArray := ⟨_, rfl⟩
  obtain ⟨Y, hY⟩ : ∃ Y, Y = (pc oneN).toArray := ⟨_, rfl⟩
  obtain ⟨Z, hZ⟩ : ∃ Z, Z = (pc twoN).toArray := ⟨_, rfl⟩
  have MS := Lib.hid (fun W => rStart_any W)
  rw [← hX] at MS
  have MM := Lib.hid (show ∀ (p : Option Addr) (c : Nat) (W : World) (D : Nat), Reads3 D W p 1 (fun _ => 12) (fun _ => 28) (fun _ => 0) → GP D W → D ≤ W.heap.size →
      Calls Tryd.prog 44 #[.agg X, .slice p 1 c] W fun e w' => e = .returned (.tuple #[.agg Y, .int .i64 0]) ∧ Below W.heap.size W w' from fun p c W D h1 h2 h3 => by
    have := moves_any startN p 1 c (fun _ => 12) (fun _ => 28) (fun _ => 0) W D (by omega) h1 h2 h3
    rw [one_e] at this
    rw [hX, hY]; exact this)
  have MV := Lib.hid (show ∀ (W : World) (D : Nat), GP D W → D ≤ W.heap.size →
      Calls Tryd.prog 11 #[.agg Y, .agg #[.int .i64 62, .int .i64 45, .int .i64 0]] W fun e w' => e = .returned (.tuple #[.agg Z, .int .i64 0]) ∧ Below W.heap.size W w' from fun W D h2 h3 => by
    have := move_any oneN 62 45 0 W D h2 h3
    rw [two_e] at this
    rw [hY, hZ]; exact this)
  have HX := Lib.hid hX
  have HY := Lib.hid hY
  have HZ := Lib.hid hZ
  have HG := Lib.hid hg
  clear hX hY hZ hg
  go_enter Tryd.func16, Tryd.ntmps16
  go_wp2_with fail
  refine (MS.out _).mono ?_
  rintro e w1 ⟨rfl, hb⟩
  have H1 := Lib.hid hb
  clear hb
  go_wp2_with fail
  have HRD := Lib.hid (show Reads3 (w1.heap.size + 1) (w1.alloc (.cells #[.int .i64 12, .int .i64 28, .int .i64 0] 34)) (some ⟨w1.heap.size, 0, none⟩) 1 (fun _ => 12) (fun _ => 28) (fun _ => 0) from
    .inr ⟨w1.heap.size, 0, rfl, by omega, fun i hi => by
      obtain rfl : i = 0 := by omega
      exact ⟨cell_of_row _ _ 0 _ _ (0, 0) (sl_at rfl), cell_of_row _ _ 1 _ _ (0, 0) (sl_at rfl), cell_of_row _ _ 2 _ _ (0, 0) (sl_at rfl)⟩⟩)
  have HA := Lib.hid (below_new (w := w1) (.cells #[.int .i64 12, .int .i64 28, .int .i64 0] 34))
  refine (MM.out _ _ _ _ HRD.out ((HG.out.below ((H1.out.mono hB).trans (HA.out.mono (Nat.le_trans hB H1.out.size)))).mono (by have := H1.out.size; omega)) (by simp)).mono ?_
  rintro e w2 ⟨rfl, hb⟩
  replace H1 := Lib.hid ((H1.out.trans (HA.out.mono H1.out.size)).trans (hb.mono (H1.out.trans (HA.out.mono H1.out.size)).size))
  clear hb HA HRD
  go_wp2_with (first | refine wpList_new Y oneN HY.out (by rfl) (by rfl) ?_ | fail)
  intro w3 hq hb hz
  replace H1 := Lib.hid (H1.out.trans (hb.mono H1.out.size))
  have H2 := Lib.hid hq
  clear hb hq hz
  generalize w2.heap.size = b1 at H2 ⊢
  go_wp2_with (refine wpList_pos (by rfl) _ (by rfl) b1 oneN Y HY.out (by rfl) H2.out ?_)
  refine (MV.out _ B (HG.out.below (H1.out.mono hB)) (Nat.le_trans hB H1.out.size)).mono ?_
  rintro e w4 ⟨rfl, hb⟩
  replace H1 := Lib.hid (H1.out.trans (hb.mono H1.out.size))
  replace H2 := Lib.hid (H2.out.go hb)
  clear hb
  go_wp2_with (first | refine wpList_new Z twoN HZ.out (by rfl) (by rfl) ?_ | fail)
  intro w5 hq hb hz
  replace H1 := Lib.hid (H1.out.trans (hb.mono H1.out.size))
  replace H2 := Lib.hid (H2.out.go hb)
  have H3 := Lib.hid hq
  clear hb hq hz
  generalize w4.heap.size = b3 at H3 ⊢
  have e1 := H2.out.cell 130 (by omega)
  have e2 := H2.out.cell 131 (by omega)
  have e3 := H2.out.cell 132 (by omega)
  have f1 := H3.out.cell 130 (by omega)
  have f2 := H3.out.cell 131 (by omega)
  have f3 := H3.out.cell 132 (by omega)
  have f4 := H3.out.cell 90 (by omega)
  rw [one_vals.1] at e1
  rw [one_vals.2.1] at e2
  rw [one_vals.2.2] at e3
  rw [two_vals.2.2.1] at f1
  rw [two_vals.1] at f2
  rw [two_vals.2.1] at f3
  rw [two_vals.2.2.2] at f4
  go_wp2
  go_ret
  exact ⟨rfl, H1.out⟩
end Go.Proofs.YtlfapakllhhadaaDoor
