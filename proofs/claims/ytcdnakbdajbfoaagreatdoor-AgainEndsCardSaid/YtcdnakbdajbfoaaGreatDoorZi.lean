/-
  AgainEnds: the walk.
-/
import Derived.Deep.CutRange
import Derived.Deep.CutBlock
import Derived.Test.YtcdnakbdajbfoaaGreatDoorZh
namespace Go.Proofs.YtcdnakbdajbfoaaGreatDoor
open Go.RowKit Go.Sort Go.Maps
set_option linter.unusedSimpArgs false
set_option linter.unusedVariables false
set_option maxRecDepth 20000

set_option maxHeartbeats 16000000 in
set_option maxRecDepth 100000 in
theorem againEnds_any (w : World) (B : Nat) (he : EN B w) :
    Calls Tryz.prog 4 #[] w fun e w' => e = .returned (.bool true) ∧ Below w.heap.size w w' := by
  obtain ⟨E, hE⟩ : ∃ E, E = (pc emptyN).toArray := ⟨_, rfl⟩
  obtain ⟨S0, hS⟩ : ∃ E, E = (pc startN).toArray := ⟨_, rfl⟩
  have MEM := Lib.hid (fun W => rEmpty_any W)
  have MST := Lib.hid (fun W => rStart_any W)
  rw [← hE] at MEM
  rw [← hS] at MST
  have HE0 := Lib.hid hE
  have HS0 := Lib.hid hS
  have HEN := Lib.hid (fun W (h : Below w.heap.size w W) => he.go h)
  have MNO := Lib.hid (fun W => none12_any W)
  have MAW := Lib.hid (fun W (h : Below w.heap.size w W) => awake12_any B W (he.go h))
  have MTT := Lib.hid (fun ap m cp hm Ls P hI hIP hA hAP W (h : Below w.heap.size w W) hr => tells12_any B ap m cp hm Ls P hI hIP hA hAP W (he.go h) hr)
  have MOV := Lib.hid (fun P W (h : Below w.heap.size w W) => over_any P W B (he.go h).gb (he.go h).gs (he.go h).gm (he.go h).gp (he.go h).k)
  have MSM := Lib.hid (fun P Q W (h : Below w.heap.size w W) => same_any12 P Q W B (he.go h).gb (he.go h).gs (he.go h).gm (he.go h).gp (he.go h).k)
  clear hE hS he
  go_enter Tryz.func4, Tryz.ntmps4
  go_wp2_with fail
  refine (MEM.out _).mono ?_
  rintro e w1 ⟨rfl, hb1⟩
  go_wp2_with (refine wpList_new E emptyN HE0.out (by rfl) (by rfl) ?_)
  intro W2 hp2 hb2 hz2
  have HZ := Lib.hid (show PZ w1.heap.size emptyN w W2 from ⟨hp2, hb1.size, hb1.trans (hb2.mono hb1.size)⟩)
  clear hp2 hb2 hz2 hb1 MEM
  generalize w1.heap.size = pb at *
  obtain ⟨P0, hP0⟩ : ∃ P, emptyN = P := ⟨_, rfl⟩
  have HQ := Lib.hid (show setN (ptN (ptN (ptN (ptN emptyN 4 6 0) 63 6 1) 36 1 0) 35 1 1) 130 43 = eP0 from rfl)
  rw [hP0] at HZ HQ
  clear hP0
  go_upto_region 2 with (fail)
  have e1 := HZ.out.p.cell 8 (by omega)
  have e2 := HZ.out.p.cell 9 (by omega)
  have e3 := HZ.out.p.fr 8
  have e4 := HZ.out.p.fr 9
  have HT := Lib.hid (HZ.out.pt 4 6 0 (by omega))
  generalize P0 8 = q1 at e1
  generalize P0 9 = q2 at e2
  go_upto_region 3 with (fail)
  obtain ⟨P1, hP⟩ : ∃ P, ptN P0 4 6 0 = P := ⟨_, rfl⟩
  rw [hP] at HT HQ
  refine forget_B (fun W => PZ pb P1 w W) HT.out ?_
  clear HZ HT e1 e2 e3 e4 hP
  intro V0 hs
  have HZ := Lib.hid hs
  clear hs
  have e1 := HZ.out.p.cell 126 (by omega)
  have e2 := HZ.out.p.cell 127 (by omega)
  have e3 := HZ.out.p.fr 126
  have e4 := HZ.out.p.fr 127
  have HT := Lib.hid (HZ.out.pt 63 6 1 (by omega))
  generalize P1 126 = q1 at e1
  generalize P1 127 = q2 at e2
  go_upto_region 4 with (fail)
  obtain ⟨P2, hP⟩ : ∃ P, ptN P1 63 6 1 = P := ⟨_, rfl⟩
  rw [hP] at HT HQ
  refine forget_B (fun W => PZ pb P2 w W) HT.out ?_
  clear HZ HT e1 e2 e3 e4 hP
  intro V1 hs
  have HZ := Lib.hid hs
  clear hs
  have e1 := HZ.out.p.cell 72 (by omega)
  have e2 := HZ.out.p.cell 73 (by omega)
  have e3 := HZ.out.p.fr 72
  have e4 := HZ.out.p.fr 73
  have HT := Lib.hid (HZ.out.pt 36 1 0 (by omega))
  generalize P2 72 = q1 at e1
  generalize P2 73 = q2 at e2
  go_upto_region 5 with (fail)
  obtain ⟨P3, hP⟩ : ∃ P, ptN P2 36 1 0 = P := ⟨_, rfl⟩
  rw [hP] at HT HQ
  refine forget_B (fun W => PZ pb P3 w W) HT.out ?_
  clear HZ HT e1 e2 e3 e4 hP
  intro V2 hs
  have HZ := Lib.hid hs
  clear hs
  have e1 := HZ.out.p.cell 70 (by omega)
  have e2 := HZ.out.p.cell 71 (by omega)
  have e3 := HZ.out.p.fr 70
  have e4 := HZ.out.p.fr 71
  have HT := Lib.hid (HZ.out.pt 35 1 1 (by omega))
  generalize P3 70 = q1 at e1
  generalize P3 71 = q2 at e2
  go_upto_region 6 with (fail)
  obtain ⟨P4, hP⟩ : ∃ P, ptN P3 35 1 1 = P := ⟨_, rfl⟩
  rw [hP] at HT HQ
  refine forget_B (fun W => PZ pb P4 w W) HT.out ?_
  clear HZ HT e1 e2 e3 e4 hP
  intro V3 hs
  have HZ := Lib.hid hs
  clear hs
  have e1 := HZ.out.p.cell 130 (by omega)
  have e3 := HZ.out.p.fr 130
  have HT := Lib.hid (HZ.out.set 130 43 (by omega))
  generalize P4 130 = q1 at e1
  go_upto_region 7 with (fail)
  rw [HQ.out] at HT
  refine forget_B (fun W => PZ pb eP0 w W) HT.out ?_
  clear HZ HT HQ e1 e3
  intro W7 hs
  have HZ := Lib.hid hs
  clear hs
  obtain ⟨X, hX⟩ : ∃ X, X = (pc eP0).toArray := ⟨_, rfl⟩
  have HX := Lib.hid hX
  clear hX
  refine wp_region_lit ?_
  refine wpList_pos (by rfl) _ (by rfl) pb eP0 X HX.out (by rfl) HZ.out.p ?_
  simp only [Act.put, List.setIfInBounds_toArray, List.set_cons_zero, List.set_cons_succ]
  refine wpList_pos (by rfl) _ (by rfl) pb eP0 X HX.out (by rfl) HZ.out.p ?_
  simp only [Act.put, List.setIfInBounds_toArray, List.set_cons_zero, List.set_cons_succ]
  refine wpList_pos (by rfl) _ (by rfl) pb eP0 X HX.out (by rfl) HZ.out.p ?_
  simp only [Act.put, List.setIfInBounds_toArray, List.set_cons_zero, List.set_cons_succ]
  refine wpList_pos (by rfl) _ (by rfl) pb eP0 X HX.out (by rfl) HZ.out.p ?_
  simp only [Act.put, List.setIfInBounds_toArray, List.set_cons_zero, List.set_cons_succ]
  refine wpList_pos (by rfl) _ (by rfl) pb eP0 X HX.out (by rfl) HZ.out.p ?_
  simp only [Act.put, List.setIfInBounds_toArray, List.set_cons_zero, List.set_cons_succ]
  refine wpList_pos (by rfl) _ (by rfl) pb eP0 X HX.out (by rfl) HZ.out.p ?_
  simp only [Act.put, List.setIfInBounds_toArray, List.set_cons_zero, List.set_cons_succ]
  refine wpList_pos (by rfl) _ (by rfl) pb eP0 X HX.out (by rfl) HZ.out.p ?_
  simp only [Act.put, List.setIfInBounds_toArray, List.set_cons_zero, List.set_cons_succ]
  refine wpList_pos (by rfl) _ (by rfl) pb eP0 X HX.out (by rfl) HZ.out.p ?_
  simp only [Act.put, List.setIfInBounds_toArray, List.set_cons_zero, List.set_cons_succ]
  refine wpList_plain rfl (fun K hK => ?_)
  refine wp_sliceP 8 _ rfl [X, X, X, X, X, X, X, X] (fun V hx => by rw [show V = X by simpa using hx, HX.out]; exact pc_size eP0) rfl (by omega) (by omega) (by rfl) ?_
  refine hK _ _ ?_
  clear hK K
  obtain ⟨lb, hlb⟩ : ∃ q, W7.heap.size = q := ⟨_, rfl⟩
  have HR := Lib.hid (show RG lb (fun j => eP0 (j % 133)) w (W7.alloc (.cells ([X, X, X, X, X, X, X, X].flatMap fun X => X.toList).toArray 30)) from by
    have h0 : (W7.alloc (.cells ([X, X, X, X, X, X, X, X].flatMap fun X => X.toList).toArray 30)).heap[lb]? = some (.cells ([X, X, X, X, X, X, X, X].flatMap fun X => X.toList).toArray 30 (0, 0)) := sl_at hlb.symm
    have h1 := readsP_row (m := 8) (Ps := fun _ => eP0) (by rw [HX.out]; rfl) h0
    refine RG.of (fun i hi => ?_) (fun j => by simp only [World.frozen?, h0]; rfl) (Array.getElem?_eq_some_iff.1 h0).1 (by rw [← hlb]; exact HZ.out.bl.size) (HZ.out.bl.trans ((below_new _).mono HZ.out.bl.size))
    rcases h1 with h | ⟨x, y, h, _, h2⟩
    · cases h
    · cases h
      have := h2 i hi
      rwa [Nat.zero_add] at this)
  clear HZ HX
  generalize (W7.alloc (.cells ([X, X, X, X, X, X, X, X].flatMap fun X => X.toList).toArray 30)) = W8 at *
  rw [hlb]
  clear hlb
  obtain ⟨G0, hG0⟩ : ∃ G, (fun j => eP0 (j % 133)) = G := ⟨_, rfl⟩
  have HQ := Lib.hid (show lG.ptR (setN (setN (lG.ptR (lG.ptR (lG.ptR (setN (fun j => eP0 (j % 133)) 263 (-1)) 386 4 1) 403 4 1) 604 2 0) 797 9) 926 1) 1017 3 0 = lG from rfl)
  rw [hG0] at HR HQ
  clear hG0
  go_upto_region 8 with (fail)
  have e1 := HR.out.cell 263 (by omega)
  have e3 := HR.out.fr 263
  have HT := Lib.hid (HR.out.set 263 (-1))
  generalize G0 263 = q1 at e1
  go_upto_region 9 with (fail)
  obtain ⟨G1, hP⟩ : ∃ P, setN G0 263 (-1) = P := ⟨_, rfl⟩
  rw [hP] at HT HQ
  refine forget_B (fun W => RG lb G1 w W) HT.out ?_
  clear HR HT e1 e3 hP
  intro U0 hs
  have HR := Lib.hid hs
  clear hs
  have e1 := HR.out.cell 386 (by omega)
  have e2 := HR.out.cell 387 (by omega)
  have e3 := HR.out.fr 386
  have e4 := HR.out.fr 387
  have HT := Lib.hid (HR.out.pt 386 4 1)
  generalize G1 386 = q1 at e1
  generalize G1 387 = q2 at e2
  go_upto_region 10 with (fail)
  obtain ⟨G2, hP⟩ : ∃ P, lG.ptR G1 386 4 1 = P := ⟨_, rfl⟩
  rw [hP] at HT HQ
  refine forget_B (fun W => RG lb G2 w W) HT.out ?_
  clear HR HT e1 e3 hP
  clear e2 e4
  intro U1 hs
  have HR := Lib.hid hs
  clear hs
  have e1 := HR.out.cell 403 (by omega)
  have e2 := HR.out.cell 404 (by omega)
  have e3 := HR.out.fr 403
  have e4 := HR.out.fr 404
  have HT := Lib.hid (HR.out.pt 403 4 1)
  generalize G2 403 = q1 at e1
  generalize G2 404 = q2 at e2
  go_upto_region 11 with (fail)
  obtain ⟨G3, hP⟩ : ∃ P, lG.ptR G2 403 4 1 = P := ⟨_, rfl⟩
  rw [hP] at HT HQ
  refine forget_B (fun W => RG lb G3 w W) HT.out ?_
  clear HR HT e1 e3 hP
  clear e2 e4
  intro U2 hs
  have HR := Lib.hid hs
  clear hs
  have e1 := HR.out.cell 604 (by omega)
  have e2 := HR.out.cell 605 (by omega)
  have e3 := HR.out.fr 604
  have e4 := HR.out.fr 605
  have HT := Lib.hid (HR.out.pt 604 2 0)
  generalize G3 604 = q1 at e1
  generalize G3 605 = q2 at e2
  go_upto_region 12 with (fail)
  obtain ⟨G4, hP⟩ : ∃ P, lG.ptR G3 604 2 0 = P := ⟨_, rfl⟩
  rw [hP] at HT HQ
  refine forget_B (fun W => RG lb G4 w W) HT.out ?_
  clear HR HT e1 e3 hP
  clear e2 e4
  intro U3 hs
  have HR := Lib.hid hs
  clear hs
  have e1 := HR.out.cell 797 (by omega)
  have e3 := HR.out.fr 797
  have HT := Lib.hid (HR.out.set 797 9)
  generalize G4 797 = q1 at e1
  go_upto_region 13 with (fail)
  obtain ⟨G5, hP⟩ : ∃ P, setN G4 797 9 = P := ⟨_, rfl⟩
  rw [hP] at HT HQ
  refine forget_B (fun W => RG lb G5 w W) HT.out ?_
  clear HR HT e1 e3 hP
  intro U4 hs
  have HR := Lib.hid hs
  clear hs
  have e1 := HR.out.cell 926 (by omega)
  have e3 := HR.out.fr 926
  have HT := Lib.hid (HR.out.set 926 1)
  generalize G5 926 = q1 at e1
  go_upto_region 14 with (fail)
  obtain ⟨G6, hP⟩ : ∃ P, setN G5 926 1 = P := ⟨_, rfl⟩
  rw [hP] at HT HQ
  refine forget_B (fun W => RG lb G6 w W) HT.out ?_
  clear HR HT e1 e3 hP
  intro U5 hs
  have HR := Lib.hid hs
  clear hs
  have e1 := HR.out.cell 1017 (by omega)
  have e2 := HR.out.cell 1018 (by omega)
  have e3 := HR.out.fr 1017
  have e4 := HR.out.fr 1018
  have HT := Lib.hid (HR.out.pt 1017 3 0)
  generalize G6 1017 = q1 at e1
  generalize G6 1018 = q2 at e2
  go_upto_region 15 with (fail)
  obtain ⟨G7, hP⟩ : ∃ P, lG.ptR G6 1017 3 0 = P := ⟨_, rfl⟩
  rw [hP] at HT HQ
  refine forget_B (fun W => RG lb G7 w W) HT.out ?_
  clear HR HT e1 e3 hP
  clear e2 e4
  intro U6 hs
  have HR := Lib.hid hs
  clear hs
  rw [HQ.out] at HR
  clear HQ
  go_wp2
  go_loopw [3] (fun x wr => ∃ (i : Nat), i ≤ 8 ∧ x = .int .i64 (i : Int) ∧ RG lb lG w wr) (fun x _ => 8 - (intOf x).toNat)
  case atStart => exact ⟨0, Nat.zero_le _, rfl, HR.out⟩
  case round =>
    clear HR
    obtain ⟨i, hi, rfl, hr⟩ := hrel
    have HR := Lib.hid hr
    clear hr
    have i0 : (0 : Int) ≤ (i : Int) := by omega
    by_cases hlt : i < 8
    · have i1 : (i : Int) < 8 := by omega
      have i3 : (i : Int) ≤ 8 := by omega
      obtain ⟨Xi, hXi⟩ : ∃ X, X = (pc (lq i)).toArray := ⟨_, rfl⟩
      obtain ⟨Y, hY⟩ : ∃ X, X = (pc (lx i)).toArray := ⟨_, rfl⟩
      obtain ⟨tv, htv⟩ : ∃ x, exN i = x := ⟨_, rfl⟩
      have HXi := Lib.hid hXi
      have HY := Lib.hid hY
      have HAT := Lib.hid (fun W (h : RG lb lG w W) => h.at i hlt)
      have M1 := Lib.hid (fun W (h : Below w.heap.size w W) => show Calls Tryz.prog 9 #[.agg Xi] W fun e w' => e = .returned (.int .i64 tv) ∧ Below W.heap.size W w' from by
        have := MOV.out (lq i) W h
        rwa [lq_tk i hlt, htv, ← hXi] at this)
      have M2 := Lib.hid (fun W (h : RG lb lG w W) => show Calls Tryz.prog 3 #[.slice (some ⟨lb, 0, none⟩) 8 8, .agg Xi] W fun e w' => e = .returned (.bool true) ∧ Below W.heap.size W w' from by
        rw [hXi]
        exact MTT.out _ 8 8 (by omega) lq (lq i) lq_in (lq_in i hlt) lq_ov (lq_ov i hlt) W h.bl h.reads)
      have M3 := Lib.hid (fun W nb (h : Below w.heap.size w W) (hr : ReadsP W.heap.size W (some ⟨nb, 0, none⟩) 3 (fun k => if k = 1 then lx i else lq i)) => show Calls Tryz.prog 3 #[.slice (some ⟨nb, 0, none⟩) 3 3, .agg Y] W fun e w' => e = .returned (.bool true) ∧ Below W.heap.size W w' from by
        rw [hY]
        refine MTT.out _ 3 3 (by omega) _ (lx i) (fun k _ => ?_) (lx_in i hlt) (fun k _ => ?_) (ov_none (lx_over i)) W h hr
        · show InW (if k = 1 then lx i else lq i)
          split
          · exact lx_in i hlt
          · exact lq_in i hlt
        · show ovU (if k = 1 then lx i else lq i) = tkO (if k = 1 then lx i else lq i)
          split
          · exact ov_none (lx_over i)
          · exact lq_ov i hlt)
      have HTV := Lib.hid htv
      clear hXi hY htv
      go_upto_region 18 with (fail)
      refine wp_region_lit ?_
      refine wpList_plain rfl (fun K hK => ?_)
      go_simp
      refine hK _ _ ?_
      clear hK K
      refine wpList_plain rfl (fun K hK => ?_)
      go_simp
      refine hK _ _ ?_
      clear hK K
      refine wpList_plain rfl (fun K hK => ?_)
      go_simp
      refine hK _ _ ?_
      clear hK K
      refine wpList_posAt (by rfl) _ (by rfl) lb (i * 133) (lq i) Xi HXi.out (by rfl) (HAT.out _ HR.out) ?_
      refine wpList_newP Xi (lq i) HXi.out (by rfl) (by rfl) (fun W3 hp hb hsz => ?_)
      have HZ := Lib.hid (show PZ wr.heap.size (lq i) w W3 from ⟨hp, HR.out.bl.size, HR.out.bl.trans (hb.mono HR.out.bl.size)⟩)
      have HNE := Lib.hid (show wr.heap.size ≠ lb from by have := HR.out.lt; omega)
      replace HR := Lib.hid (HR.out.go hb)
      clear hp hb hsz
      generalize wr.heap.size = xb at *
      show Exit.then _ _ Exit.normal _ _
      have e1 := HZ.out.p.cell 130 (by omega)
      have e3 := HZ.out.p.fr 130
      have HT := Lib.hid (show RG lb lG w (W3.setCell ⟨xb, 130, none⟩ (.int .i64 (-1))) ∧ PZ xb (lx i) w (W3.setCell ⟨xb, 130, none⟩ (.int .i64 (-1))) from ⟨HR.out.other 130 _ HZ.out.hb HNE.out, HZ.out.set 130 (-1) (by omega)⟩)
      generalize lq i 130 = q1 at e1
      go_upto_region 20 with (fail)
      refine forget_B (fun W => RG lb lG w W ∧ PZ xb (lx i) w W) HT.out ?_
      clear HZ HR HT e1 e3 HNE
      intro W4 ht
      have HT := Lib.hid ht
      clear ht
      refine wp_region_noPanic ?_
      refine wp_region_start (n := 34) (l := #[false, false, false, false, false, false, false, false, false, false, false, false, false, false, false, false, false, false, false, false, false, false, false, false, false, false, false, false, false, false, false, false, false, false]) (S := (fun W => RG lb lG w W ∧ PZ xb (lx i) w W)) (by kernel_rfl) rfl (by kernel_rfl) (by first | exact HT.out | exact ⟨HT.out.1.go (Below.refl _ _).drew, HT.out.2.go (Below.refl _ _).drew⟩) (fun hHeld => ?_)
      replace HT := Lib.hid (And.intro (HT.out.1.go (Below.refl W4.heap.size W4).drew) (HT.out.2.go (Below.refl W4.heap.size W4).drew))
      generalize W4.drew = V at *
      refine tq (i := 0) (d := some 71) rfl rfl ?_
      try simp only [aP, sA, sZ, sS]
      refine tq (i := 1) (d := some 72) rfl rfl ?_
      try simp only [aP, sA, sZ, sS]
      refine tq (i := 2) (d := some 73) rfl rfl ?_
      try simp only [aP, sA, sZ, sS]
      refine tg (i := 3) (d := some 74) (v := (.agg Xi)) rfl rfl ?_ ?_
      · exact yields_posAt (by rfl) _ (by rfl) lb (i * 133) (lq i) Xi HXi.out (by rfl) (fun W h => HAT.out W h.1)
      try simp only [aP, sA, sZ, sS]
      refine tq (i := 6) (d := some 77) rfl rfl ?_
      try simp only [aP, sA, sZ, sS]
      refine wg (i := 4) (j := 5) rfl rfl (by kernel_rfl) (fun K hK => ?_) (fun K hK => ?_)
      · skip
        go_simp
        refine (M1.out _ HT.out.1.bl).mono ?_
        rintro e V ⟨rfl, hb⟩
        replace HT := Lib.hid (And.intro (HT.out.1.go hb) (HT.out.2.go hb))
        try replace HJ := Lib.hid ((hb.cell (p := ⟨jb, i, none⟩) (block_lt_of_cell HJ.out)).trans HJ.out)
        clear hb
        dsimp only
        refine hK.out _ _ (by first | exact HT.out | exact ⟨HT.out.1.go (Below.refl _ _).drew, HT.out.2.go (Below.refl _ _).drew⟩) (fun hHeld => ?_)
        clear hK K
        try simp only [aP, sA, sZ, sS]
        refine og (i := 5) rfl (by kernel_rfl) (fun K hK => ?_)
        go_simp
        have HJ := Lib.hid (show (V.alloc (.cells #[.int .i64 43, .int .i64 (-1), .int .i64 (-1), .int .i64 (-1), .int .i64 (-1), .int .i64 43, .int .i64 (-1), .int .i64 (-1)] 3)).cell? ⟨V.heap.size, i, none⟩ = some (.int .i64 tv) from by rw [← HTV.out]; exact ex_row12 V _ i hlt)
        have hb : Below V.heap.size V (V.alloc (.cells #[.int .i64 43, .int .i64 (-1), .int .i64 (-1), .int .i64 (-1), .int .i64 (-1), .int .i64 43, .int .i64 (-1), .int .i64 (-1)] 3)) := below_new _
        replace HT := Lib.hid (And.intro (HT.out.1.go hb) (HT.out.2.go hb))
        clear hb
        generalize V.alloc (.cells #[.int .i64 43, .int .i64 (-1), .int .i64 (-1), .int .i64 (-1), .int .i64 (-1), .int .i64 43, .int .i64 (-1), .int .i64 (-1)] 3) = V2 at *
        generalize V.heap.size = jb at *
        skip
        refine hK.out _ _ (by first | exact HT.out | exact ⟨HT.out.1.go (Below.refl _ _).drew, HT.out.2.go (Below.refl _ _).drew⟩) (fun hHeld => ?_)
        clear hK K
        try simp only [aP, sA, sZ, sS]
        refine tq (i := 7) (d := some 78) rfl rfl ?_
        try simp only [aP, sA, sZ, sS]
        refine og (i := 8) rfl (by kernel_rfl) (fun K hK => ?_)
        have e0 := HJ.out
        go_simp
        clear e0
        refine hK.out _ _ (by first | exact HT.out | exact ⟨HT.out.1.go (Below.refl _ _).drew, HT.out.2.go (Below.refl _ _).drew⟩) (fun hHeld => ?_)
        clear hK K
        try simp only [aP, sA, sZ, sS]
        refine tq (i := 9) (d := some 80) rfl rfl ?_
        try simp only [aP, sA, sZ, sS]
        refine tq (i := 10) (d := some 81) rfl rfl ?_
        try simp only [aP, sA, sZ, sS]
        refine tq (i := 11) (d := some 82) rfl rfl ?_
        try simp only [aP, sA, sZ, sS]
        refine tq (i := 12) (d := some 83) rfl rfl ?_
        try simp only [aP, sA, sZ, sS]
        refine tq (i := 13) (d := some 84) rfl rfl ?_
        try simp only [aP, sA, sZ, sS]
        refine tq (i := 14) (d := some 85) rfl rfl ?_
        try simp only [aP, sA, sZ, sS]
        refine tg (i := 15) (d := some 86) (v := (.agg Xi)) rfl rfl ?_ ?_
        · exact yields_posAt (by rfl) _ (by rfl) lb (i * 133) (lq i) Xi HXi.out (by rfl) (fun W h => HAT.out W h.1)
        try simp only [aP, sA, sZ, sS]
        refine og (i := 16) rfl (by kernel_rfl) (fun K hK => ?_)
        go_simp
        refine (M2.out _ HT.out.1).mono ?_
        rintro e V ⟨rfl, hb⟩
        replace HT := Lib.hid (And.intro (HT.out.1.go hb) (HT.out.2.go hb))
        clear hb
        dsimp only
        refine hK.out _ _ (by first | exact HT.out | exact ⟨HT.out.1.go (Below.refl _ _).drew, HT.out.2.go (Below.refl _ _).drew⟩) (fun hHeld => ?_)
        clear hK K
        try simp only [aP, sA, sZ, sS]
        refine tq (i := 17) (d := some 88) rfl rfl ?_
        try simp only [aP, sA, sZ, sS]
        refine tq (i := 18) (d := some 89) rfl rfl ?_
        try simp only [aP, sA, sZ, sS]
        refine tq (i := 19) (d := some 90) rfl rfl ?_
        try simp only [aP, sA, sZ, sS]
        refine tq (i := 20) (d := some 91) rfl rfl ?_
        try simp only [aP, sA, sZ, sS]
        refine tq (i := 21) (d := some 92) rfl rfl ?_
        try simp only [aP, sA, sZ, sS]
        refine tq (i := 22) (d := some 93) rfl rfl ?_
        try simp only [aP, sA, sZ, sS]
        refine tg (i := 23) (d := some 94) (v := (.agg Xi)) rfl rfl ?_ ?_
        · exact yields_posAt (by rfl) _ (by rfl) lb (i * 133) (lq i) Xi HXi.out (by rfl) (fun W h => HAT.out W h.1)
        try simp only [aP, sA, sZ, sS]
        refine tg (i := 24) (d := some 95) (v := (.agg Y)) rfl rfl ?_ ?_
        · exact yields_posC (by rfl) _ (by rfl) xb (lx i) Y HY.out (by rfl) (fun W h => h.2.p)
        try simp only [aP, sA, sZ, sS]
        refine tq (i := 25) (d := some 96) rfl rfl ?_
        try simp only [aP, sA, sZ, sS]
        refine tq (i := 26) (d := some 97) rfl rfl ?_
        try simp only [aP, sA, sZ, sS]
        refine tq (i := 27) (d := some 98) rfl rfl ?_
        try simp only [aP, sA, sZ, sS]
        refine tg (i := 28) (d := some 99) (v := (.agg Xi)) rfl rfl ?_ ?_
        · exact yields_posAt (by rfl) _ (by rfl) lb (i * 133) (lq i) Xi HXi.out (by rfl) (fun W h => HAT.out W h.1)
        try simp only [aP, sA, sZ, sS]
        refine tg (i := 30) (d := some 101) (v := (.agg Y)) rfl rfl ?_ ?_
        · exact yields_posC (by rfl) _ (by rfl) xb (lx i) Y HY.out (by rfl) (fun W h => h.2.p)
        try simp only [aP, sA, sZ, sS]
        refine og (i := 29) rfl (by kernel_rfl) (fun K hK => ?_)
        rw [if_pos (by rfl)]
        refine wp_sliceP 3 _ rfl [Xi, Y, Xi] (fun V hx => by rcases List.mem_cons.1 hx with e | e; rw [e, HXi.out]; exact pc_size _; rcases List.mem_cons.1 e with e | e; rw [e, HY.out]; exact pc_size _; rw [List.mem_singleton.1 e, HXi.out]; exact pc_size _) rfl (by omega) (by omega) (by rfl) ?_
        have HRD := Lib.hid (show ReadsP (V.alloc (.cells ([Xi, Y, Xi].flatMap fun X => X.toList).toArray 30)).heap.size (V.alloc (.cells ([Xi, Y, Xi].flatMap fun X => X.toList).toArray 30)) (some ⟨V.heap.size, 0, none⟩) 3 (fun k => if k = 1 then lx i else lq i) from readsP_row (by rw [HXi.out, HY.out]; rfl) (sl_at rfl))
        have hb : Below V.heap.size V (V.alloc (.cells ([Xi, Y, Xi].flatMap fun X => X.toList).toArray 30)) := below_new _
        replace HT := Lib.hid (And.intro (HT.out.1.go hb) (HT.out.2.go hb))
        clear hb
        generalize V.alloc (.cells ([Xi, Y, Xi].flatMap fun X => X.toList).toArray 30) = V2 at *
        generalize V.heap.size = nb at *
        refine hK.out _ _ (by first | exact HT.out | exact ⟨HT.out.1.go (Below.refl _ _).drew, HT.out.2.go (Below.refl _ _).drew⟩) (fun hHeld => ?_)
        clear hK K
        try simp only [aP, sA, sZ, sS]
        refine og (i := 31) rfl (by kernel_rfl) (fun K hK => ?_)
        go_simp
        refine (M3.out _ nb HT.out.1.bl HRD.out).mono ?_
        rintro e V ⟨rfl, hb⟩
        replace HT := Lib.hid (And.intro (HT.out.1.go hb) (HT.out.2.go hb))
        clear hb
        dsimp only
        refine hK.out _ _ (by first | exact HT.out | exact ⟨HT.out.1.go (Below.refl _ _).drew, HT.out.2.go (Below.refl _ _).drew⟩) (fun hHeld => ?_)
        clear hK K
        try simp only [aP, sA, sZ, sS]
        refine tq (i := 32) (d := some 103) rfl rfl ?_
        try simp only [aP, sA, sZ, sS]
        refine tq (i := 33) (d := some 104) rfl rfl ?_
        try simp only [aP, sA, sZ, sS]
        refine wpAnyH_done (by kernel_rfl) ?_ _
        refine NoPanic.normal ?_
        clear hHeld
        go_wp2
        go_roundw
        case rel => exact ⟨i + 1, by omega, by go_num, HT.out.1⟩
        case measure => simp [intOf]; omega
      · skip
        go_simp
        have HJ := Lib.hid (show (V.alloc (.cells #[.int .i64 43, .int .i64 (-1), .int .i64 (-1), .int .i64 (-1), .int .i64 (-1), .int .i64 43, .int .i64 (-1), .int .i64 (-1)] 3)).cell? ⟨V.heap.size, i, none⟩ = some (.int .i64 tv) from by rw [← HTV.out]; exact ex_row12 V _ i hlt)
        have hb : Below V.heap.size V (V.alloc (.cells #[.int .i64 43, .int .i64 (-1), .int .i64 (-1), .int .i64 (-1), .int .i64 (-1), .int .i64 43, .int .i64 (-1), .int .i64 (-1)] 3)) := below_new _
        replace HT := Lib.hid (And.intro (HT.out.1.go hb) (HT.out.2.go hb))
        clear hb
        generalize V.alloc (.cells #[.int .i64 43, .int .i64 (-1), .int .i64 (-1), .int .i64 (-1), .int .i64 (-1), .int .i64 43, .int .i64 (-1), .int .i64 (-1)] 3) = V2 at *
        generalize V.heap.size = jb at *
        skip
        refine hK.out _ _ (by first | exact HT.out | exact ⟨HT.out.1.go (Below.refl _ _).drew, HT.out.2.go (Below.refl _ _).drew⟩) (fun hHeld => ?_)
        clear hK K
        try simp only [aP, sA, sZ, sS]
        refine tq (i := 7) (d := some 78) rfl rfl ?_
        try simp only [aP, sA, sZ, sS]
        refine wg (i := 4) (j := 8) rfl rfl (by kernel_rfl) (fun K hK => ?_) (fun K hK => ?_)
        · skip
          go_simp
          refine (M1.out _ HT.out.1.bl).mono ?_
          rintro e V ⟨rfl, hb⟩
          replace HT := Lib.hid (And.intro (HT.out.1.go hb) (HT.out.2.go hb))
          try replace HJ := Lib.hid ((hb.cell (p := ⟨jb, i, none⟩) (block_lt_of_cell HJ.out)).trans HJ.out)
          clear hb
          dsimp only
          refine hK.out _ _ (by first | exact HT.out | exact ⟨HT.out.1.go (Below.refl _ _).drew, HT.out.2.go (Below.refl _ _).drew⟩) (fun hHeld => ?_)
          clear hK K
          try simp only [aP, sA, sZ, sS]
          refine og (i := 8) rfl (by kernel_rfl) (fun K hK => ?_)
          have e0 := HJ.out
          go_simp
          clear e0
          refine hK.out _ _ (by first | exact HT.out | exact ⟨HT.out.1.go (Below.refl _ _).drew, HT.out.2.go (Below.refl _ _).drew⟩) (fun hHeld => ?_)
          clear hK K
          try simp only [aP, sA, sZ, sS]
          refine tq (i := 9) (d := some 80) rfl rfl ?_
          try simp only [aP, sA, sZ, sS]
          refine tq (i := 10) (d := some 81) rfl rfl ?_
          try simp only [aP, sA, sZ, sS]
          refine tq (i := 11) (d := some 82) rfl rfl ?_
          try simp only [aP, sA, sZ, sS]
          refine tq (i := 12) (d := some 83) rfl rfl ?_
          try simp only [aP, sA, sZ, sS]
          refine tq (i := 13) (d := some 84) rfl rfl ?_
          try simp only [aP, sA, sZ, sS]
          refine tq (i := 14) (d := some 85) rfl rfl ?_
          try simp only [aP, sA, sZ, sS]
          refine tg (i := 15) (d := some 86) (v := (.agg Xi)) rfl rfl ?_ ?_
          · exact yields_posAt (by rfl) _ (by rfl) lb (i * 133) (lq i) Xi HXi.out (by rfl) (fun W h => HAT.out W h.1)
          try simp only [aP, sA, sZ, sS]
          refine og (i := 16) rfl (by kernel_rfl) (fun K hK => ?_)
          go_simp
          refine (M2.out _ HT.out.1).mono ?_
          rintro e V ⟨rfl, hb⟩
          replace HT := Lib.hid (And.intro (HT.out.1.go hb) (HT.out.2.go hb))
          clear hb
          dsimp only
          refine hK.out _ _ (by first | exact HT.out | exact ⟨HT.out.1.go (Below.refl _ _).drew, HT.out.2.go (Below.refl _ _).drew⟩) (fun hHeld => ?_)
          clear hK K
          try simp only [aP, sA, sZ, sS]
          refine tq (i := 17) (d := some 88) rfl rfl ?_
          try simp only [aP, sA, sZ, sS]
          refine tq (i := 18) (d := some 89) rfl rfl ?_
          try simp only [aP, sA, sZ, sS]
          refine tq (i := 19) (d := some 90) rfl rfl ?_
          try simp only [aP, sA, sZ, sS]
          refine tq (i := 20) (d := some 91) rfl rfl ?_
          try simp only [aP, sA, sZ, sS]
          refine tq (i := 21) (d := some 92) rfl rfl ?_
          try simp only [aP, sA, sZ, sS]
          refine tq (i := 22) (d := some 93) rfl rfl ?_
          try simp only [aP, sA, sZ, sS]
          refine tg (i := 23) (d := some 94) (v := (.agg Xi)) rfl rfl ?_ ?_
          · exact yields_posAt (by rfl) _ (by rfl) lb (i * 133) (lq i) Xi HXi.out (by rfl) (fun W h => HAT.out W h.1)
          try simp only [aP, sA, sZ, sS]
          refine tg (i := 24) (d := some 95) (v := (.agg Y)) rfl rfl ?_ ?_
          · exact yields_posC (by rfl) _ (by rfl) xb (lx i) Y HY.out (by rfl) (fun W h => h.2.p)
          try simp only [aP, sA, sZ, sS]
          refine tq (i := 25) (d := some 96) rfl rfl ?_
          try simp only [aP, sA, sZ, sS]
          refine tq (i := 26) (d := some 97) rfl rfl ?_
          try simp only [aP, sA, sZ, sS]
          refine tq (i := 27) (d := some 98) rfl rfl ?_
          try simp only [aP, sA, sZ, sS]
          refine tg (i := 28) (d := some 99) (v := (.agg Xi)) rfl rfl ?_ ?_
          · exact yields_posAt (by rfl) _ (by rfl) lb (i * 133) (lq i) Xi HXi.out (by rfl) (fun W h => HAT.out W h.1)
          try simp only [aP, sA, sZ, sS]
          refine tg (i := 30) (d := some 101) (v := (.agg Y)) rfl rfl ?_ ?_
          · exact yields_posC (by rfl) _ (by rfl) xb (lx i) Y HY.out (by rfl) (fun W h => h.2.p)
          try simp only [aP, sA, sZ, sS]
          refine og (i := 29) rfl (by kernel_rfl) (fun K hK => ?_)
          rw [if_pos (by rfl)]
          refine wp_sliceP 3 _ rfl [Xi, Y, Xi] (fun V hx => by rcases List.mem_cons.1 hx with e | e; rw [e, HXi.out]; exact pc_size _; rcases List.mem_cons.1 e with e | e; rw [e, HY.out]; exact pc_size _; rw [List.mem_singleton.1 e, HXi.out]; exact pc_size _) rfl (by omega) (by omega) (by rfl) ?_
          have HRD := Lib.hid (show ReadsP (V.alloc (.cells ([Xi, Y, Xi].flatMap fun X => X.toList).toArray 30)).heap.size (V.alloc (.cells ([Xi, Y, Xi].flatMap fun X => X.toList).toArray 30)) (some ⟨V.heap.size, 0, none⟩) 3 (fun k => if k = 1 then lx i else lq i) from readsP_row (by rw [HXi.out, HY.out]; rfl) (sl_at rfl))
          have hb : Below V.heap.size V (V.alloc (.cells ([Xi, Y, Xi].flatMap fun X => X.toList).toArray 30)) := below_new _
          replace HT := Lib.hid (And.intro (HT.out.1.go hb) (HT.out.2.go hb))
          clear hb
          generalize V.alloc (.cells ([Xi, Y, Xi].flatMap fun X => X.toList).toArray 30) = V2 at *
          generalize V.heap.size = nb at *
          refine hK.out _ _ (by first | exact HT.out | exact ⟨HT.out.1.go (Below.refl _ _).drew, HT.out.2.go (Below.refl _ _).drew⟩) (fun hHeld => ?_)
          clear hK K
          try simp only [aP, sA, sZ, sS]
          refine og (i := 31) rfl (by kernel_rfl) (fun K hK => ?_)
          go_simp
          refine (M3.out _ nb HT.out.1.bl HRD.out).mono ?_
          rintro e V ⟨rfl, hb⟩
          replace HT := Lib.hid (And.intro (HT.out.1.go hb) (HT.out.2.go hb))
          clear hb
          dsimp only
          refine hK.out _ _ (by first | exact HT.out | exact ⟨HT.out.1.go (Below.refl _ _).drew, HT.out.2.go (Below.refl _ _).drew⟩) (fun hHeld => ?_)
          clear hK K
          try simp only [aP, sA, sZ, sS]
          refine tq (i := 32) (d := some 103) rfl rfl ?_
          try simp only [aP, sA, sZ, sS]
          refine tq (i := 33) (d := some 104) rfl rfl ?_
          try simp only [aP, sA, sZ, sS]
          refine wpAnyH_done (by kernel_rfl) ?_ _
          refine NoPanic.normal ?_
          clear hHeld
          go_wp2
          go_roundw
          case rel => exact ⟨i + 1, by omega, by go_num, HT.out.1⟩
          case measure => simp [intOf]; omega
        · skip
          have e0 := HJ.out
          go_simp
          clear e0
          refine hK.out _ _ (by first | exact HT.out | exact ⟨HT.out.1.go (Below.refl _ _).drew, HT.out.2.go (Below.refl _ _).drew⟩) (fun hHeld => ?_)
          clear hK K
          try simp only [aP, sA, sZ, sS]
          refine og (i := 4) rfl (by kernel_rfl) (fun K hK => ?_)
          go_simp
          refine (M1.out _ HT.out.1.bl).mono ?_
          rintro e V ⟨rfl, hb⟩
          replace HT := Lib.hid (And.intro (HT.out.1.go hb) (HT.out.2.go hb))
          try replace HJ := Lib.hid ((hb.cell (p := ⟨jb, i, none⟩) (block_lt_of_cell HJ.out)).trans HJ.out)
          clear hb
          dsimp only
          refine hK.out _ _ (by first | exact HT.out | exact ⟨HT.out.1.go (Below.refl _ _).drew, HT.out.2.go (Below.refl _ _).drew⟩) (fun hHeld => ?_)
          clear hK K
          try simp only [aP, sA, sZ, sS]
          refine tq (i := 9) (d := some 80) rfl rfl ?_
          try simp only [aP, sA, sZ, sS]
          refine tq (i := 10) (d := some 81) rfl rfl ?_
          try simp only [aP, sA, sZ, sS]
          refine tq (i := 11) (d := some 82) rfl rfl ?_
          try simp only [aP, sA, sZ, sS]
          refine tq (i := 12) (d := some 83) rfl rfl ?_
          try simp only [aP, sA, sZ, sS]
          refine tq (i := 13) (d := some 84) rfl rfl ?_
          try simp only [aP, sA, sZ, sS]
          refine tq (i := 14) (d := some 85) rfl rfl ?_
          try simp only [aP, sA, sZ, sS]
          refine tg (i := 15) (d := some 86) (v := (.agg Xi)) rfl rfl ?_ ?_
          · exact yields_posAt (by rfl) _ (by rfl) lb (i * 133) (lq i) Xi HXi.out (by rfl) (fun W h => HAT.out W h.1)
          try simp only [aP, sA, sZ, sS]
          refine og (i := 16) rfl (by kernel_rfl) (fun K hK => ?_)
          go_simp
          refine (M2.out _ HT.out.1).mono ?_
          rintro e V ⟨rfl, hb⟩
          replace HT := Lib.hid (And.intro (HT.out.1.go hb) (HT.out.2.go hb))
          clear hb
          dsimp only
          refine hK.out _ _ (by first | exact HT.out | exact ⟨HT.out.1.go (Below.refl _ _).drew, HT.out.2.go (Below.refl _ _).drew⟩) (fun hHeld => ?_)
          clear hK K
          try simp only [aP, sA, sZ, sS]
          refine tq (i := 17) (d := some 88) rfl rfl ?_
          try simp only [aP, sA, sZ, sS]
          refine tq (i := 18) (d := some 89) rfl rfl ?_
          try simp only [aP, sA, sZ, sS]
          refine tq (i := 19) (d := some 90) rfl rfl ?_
          try simp only [aP, sA, sZ, sS]
          refine tq (i := 20) (d := some 91) rfl rfl ?_
          try simp only [aP, sA, sZ, sS]
          refine tq (i := 21) (d := some 92) rfl rfl ?_
          try simp only [aP, sA, sZ, sS]
          refine tq (i := 22) (d := some 93) rfl rfl ?_
          try simp only [aP, sA, sZ, sS]
          refine tg (i := 23) (d := some 94) (v := (.agg Xi)) rfl rfl ?_ ?_
          · exact yields_posAt (by rfl) _ (by rfl) lb (i * 133) (lq i) Xi HXi.out (by rfl) (fun W h => HAT.out W h.1)
          try simp only [aP, sA, sZ, sS]
          refine tg (i := 24) (d := some 95) (v := (.agg Y)) rfl rfl ?_ ?_
          · exact yields_posC (by rfl) _ (by rfl) xb (lx i) Y HY.out (by rfl) (fun W h => h.2.p)
          try simp only [aP, sA, sZ, sS]
          refine tq (i := 25) (d := some 96) rfl rfl ?_
          try simp only [aP, sA, sZ, sS]
          refine tq (i := 26) (d := some 97) rfl rfl ?_
          try simp only [aP, sA, sZ, sS]
          refine tq (i := 27) (d := some 98) rfl rfl ?_
          try simp only [aP, sA, sZ, sS]
          refine tg (i := 28) (d := some 99) (v := (.agg Xi)) rfl rfl ?_ ?_
          · exact yields_posAt (by rfl) _ (by rfl) lb (i * 133) (lq i) Xi HXi.out (by rfl) (fun W h => HAT.out W h.1)
          try simp only [aP, sA, sZ, sS]
          refine tg (i := 30) (d := some 101) (v := (.agg Y)) rfl rfl ?_ ?_
          · exact yields_posC (by rfl) _ (by rfl) xb (lx i) Y HY.out (by rfl) (fun W h => h.2.p)
          try simp only [aP, sA, sZ, sS]
          refine og (i := 29) rfl (by kernel_rfl) (fun K hK => ?_)
          rw [if_pos (by rfl)]
          refine wp_sliceP 3 _ rfl [Xi, Y, Xi] (fun V hx => by rcases List.mem_cons.1 hx with e | e; rw [e, HXi.out]; exact pc_size _; rcases List.mem_cons.1 e with e | e; rw [e, HY.out]; exact pc_size _; rw [List.mem_singleton.1 e, HXi.out]; exact pc_size _) rfl (by omega) (by omega) (by rfl) ?_
          have HRD := Lib.hid (show ReadsP (V.alloc (.cells ([Xi, Y, Xi].flatMap fun X => X.toList).toArray 30)).heap.size (V.alloc (.cells ([Xi, Y, Xi].flatMap fun X => X.toList).toArray 30)) (some ⟨V.heap.size, 0, none⟩) 3 (fun k => if k = 1 then lx i else lq i) from readsP_row (by rw [HXi.out, HY.out]; rfl) (sl_at rfl))
          have hb : Below V.heap.size V (V.alloc (.cells ([Xi, Y, Xi].flatMap fun X => X.toList).toArray 30)) := below_new _
          replace HT := Lib.hid (And.intro (HT.out.1.go hb) (HT.out.2.go hb))
          clear hb
          generalize V.alloc (.cells ([Xi, Y, Xi].flatMap fun X => X.toList).toArray 30) = V2 at *
          generalize V.heap.size = nb at *
          refine hK.out _ _ (by first | exact HT.out | exact ⟨HT.out.1.go (Below.refl _ _).drew, HT.out.2.go (Below.refl _ _).drew⟩) (fun hHeld => ?_)
          clear hK K
          try simp only [aP, sA, sZ, sS]
          refine og (i := 31) rfl (by kernel_rfl) (fun K hK => ?_)
          go_simp
          refine (M3.out _ nb HT.out.1.bl HRD.out).mono ?_
          rintro e V ⟨rfl, hb⟩
          replace HT := Lib.hid (And.intro (HT.out.1.go hb) (HT.out.2.go hb))
          clear hb
          dsimp only
          refine hK.out _ _ (by first | exact HT.out | exact ⟨HT.out.1.go (Below.refl _ _).drew, HT.out.2.go (Below.refl _ _).drew⟩) (fun hHeld => ?_)
          clear hK K
          try simp only [aP, sA, sZ, sS]
          refine tq (i := 32) (d := some 103) rfl rfl ?_
          try simp only [aP, sA, sZ, sS]
          refine tq (i := 33) (d := some 104) rfl rfl ?_
          try simp only [aP, sA, sZ, sS]
          refine wpAnyH_done (by kernel_rfl) ?_ _
          refine NoPanic.normal ?_
          clear hHeld
          go_wp2
          go_roundw
          case rel => exact ⟨i + 1, by omega, by go_num, HT.out.1⟩
          case measure => simp [intOf]; omega
    · obtain rfl : i = 8 := by omega
      have HB := Lib.hid HR.out.bl
      clear HR
      go_wp2_with fail
      refine (MST.out _).mono ?_
      rintro e w5 ⟨rfl, hb⟩
      go_wp2_with (refine wpList_new S0 startN HS0.out (by rfl) (by rfl) ?_)
      intro W5 hp2 hb2 hz2
      have HZ := Lib.hid (show PZ w5.heap.size startN w W5 from ⟨hp2, Nat.le_trans HB.out.size hb.size, (HB.out.trans (hb.mono HB.out.size)).trans (hb2.mono (Nat.le_trans HB.out.size hb.size))⟩)
      clear hp2 hb2 hz2 hb HB MST
      generalize w5.heap.size = sb at *
      go_wp2
      go_loopw [6] (fun x wr => ∃ (c : Int), -1 ≤ c ∧ c ≤ 17 ∧ x = .int .i64 c ∧ PZ sb startN w wr) (fun x _ => (17 - intOf x).toNat)
      case atStart => exact ⟨-1, by omega, by omega, rfl, HZ.out⟩
      case round =>
        clear HZ
        obtain ⟨c, hc1, hc2, rfl, hz⟩ := hrel
        have HZ := Lib.hid hz
        clear hz
        by_cases hlt : c < 17
        · obtain ⟨Q, hQ⟩ : ∃ X, X = (pc (sC c)).toArray := ⟨_, rfl⟩
          obtain ⟨sm, hsm⟩ : ∃ x, samB (sC c) startN = x := ⟨_, rfl⟩
          have HKK := Lib.hid (show c = 15 ↔ sm = true by rw [← hsm]; exact sC_same c)
          have HQ := Lib.hid hQ
          have M1 := Lib.hid (fun W (h : Below w.heap.size w W) => show Calls Tryz.prog 11 #[.agg Q, .agg S0] W fun e w' => e = .returned (.bool sm) ∧ Below W.heap.size W w' from by
            have := MSM.out (sC c) startN W h
            rwa [hsm, ← hQ, ← HS0.out] at this)
          have M3 := Lib.hid (fun W nb (h : Below w.heap.size w W) (hr : ReadsP W.heap.size W (some ⟨nb, 0, none⟩) 3 (fun k => if k = 1 then startN else sC c)) => show Calls Tryz.prog 3 #[.slice (some ⟨nb, 0, none⟩) 3 3, .agg Q] W fun e w' => e = .returned (.bool true) ∧ Below W.heap.size W w' from by
            rw [hQ]
            refine MTT.out _ 3 3 (by omega) _ (sC c) (fun k _ => ?_) (sC_in c hc1 (by omega)) (fun k _ => ?_) (ov_none (sC_over c)) W h hr
            · show InW (if k = 1 then startN else sC c)
              split
              · exact start_in
              · exact sC_in c hc1 (by omega)
            · show ovU (if k = 1 then startN else sC c) = tkO (if k = 1 then startN else sC c)
              split
              · exact ov_none start_over
              · exact ov_none (sC_over c))
          clear hQ hsm
          go_upto_region 26 with (fail)
          refine wp_region_lit ?_
          refine wpList_pos (by rfl) _ (by rfl) sb startN S0 HS0.out (by rfl) HZ.out.p ?_
          refine wpList_newP S0 startN HS0.out (by rfl) (by rfl) (fun W3 hp hb hsz => ?_)
          have HZ2 := Lib.hid (show PZ wr.heap.size startN w W3 from ⟨hp, HZ.out.bl.size, HZ.out.bl.trans (hb.mono HZ.out.bl.size)⟩)
          have HNE := Lib.hid (show sb ≠ wr.heap.size from by have := HZ.out.p.lt; omega)
          replace HZ := Lib.hid (HZ.out.go hb)
          clear hp hb hsz
          generalize wr.heap.size = qb at *
          show Exit.then _ _ Exit.normal _ _
          have e1 := HZ2.out.p.cell 129 (by omega)
          have e3 := HZ2.out.p.fr 129
          have HT := Lib.hid (show PZ sb startN w (W3.setCell ⟨qb, 129, none⟩ (.int .i64 c)) ∧ PZ qb (sC c) w (W3.setCell ⟨qb, 129, none⟩ (.int .i64 c)) from ⟨⟨HZ.out.p.other HNE.out 129 _, HZ.out.hb, HZ.out.bl.setCell (p := ⟨qb, 129, none⟩) HZ2.out.hb _⟩, HZ2.out.set 129 c (by omega)⟩)
          generalize startN 129 = q1 at e1
          go_upto_region 28 with (fail)
          refine forget_B (fun W => PZ sb startN w W ∧ PZ qb (sC c) w W) HT.out ?_
          clear HZ HZ2 HT e1 e3 HNE
          intro W4 ht
          have HT := Lib.hid ht
          clear ht
          have h17 : decide (c = 15) = sm := by have := HKK.out; cases sm <;> simp_all
          have h18 : (c == 15) = sm := by have := HKK.out; cases sm <;> simp_all
          go_wp2_with (first | refine wpList_pos (by rfl) _ (by rfl) qb (sC c) Q HQ.out (by rfl) HT.out.2.p ?_ | refine wpList_pos (by rfl) _ (by rfl) sb startN S0 HS0.out (by rfl) HT.out.1.p ?_ | fail)
          refine (M1.out _ HT.out.1.bl).mono ?_
          rintro e V ⟨rfl, hb⟩
          replace HT := Lib.hid (And.intro (HT.out.1.go hb) (HT.out.2.go hb))
          clear hb M1
          dsimp only
          refine list_go (by assumption) ?_
          go_wp2_with (first | refine wpList_pos (by rfl) _ (by rfl) qb (sC c) Q HQ.out (by rfl) HT.out.2.p ?_ | refine wpList_pos (by rfl) _ (by rfl) sb startN S0 HS0.out (by rfl) HT.out.1.p ?_ | refine wpList_sliceP (by rfl) 3 _ rfl [Q, S0, Q] (fun k => if k = 1 then startN else sC c) (by rw [HQ.out, HS0.out]; rfl) (by omega) (by omega) (by rfl) ?_ | fail)
          intro W6 nb hrd hb
          have HRD := Lib.hid hrd
          replace HT := Lib.hid (And.intro (HT.out.1.go hb) (HT.out.2.go hb))
          clear hb hrd h17 h18
          try simp only [aP, sA, sZ, sS]
          go_wp2_with (first | refine wpList_pos (by rfl) _ (by rfl) qb (sC c) Q HQ.out (by rfl) HT.out.2.p ?_ | refine wpList_pos (by rfl) _ (by rfl) sb startN S0 HS0.out (by rfl) HT.out.1.p ?_ | fail)
          refine (M3.out _ nb HT.out.1.bl HRD.out).mono ?_
          rintro e V ⟨rfl, hb⟩
          replace HT := Lib.hid (And.intro (HT.out.1.go hb) (HT.out.2.go hb))
          clear hb M3
          dsimp only
          refine list_go (by assumption) ?_
          go_wp2
          go_roundw
          case rel => exact ⟨c + 1, by omega, by omega, by go_num, HT.out.1⟩
          case measure => simp [intOf]; omega
        · obtain rfl : c = 17 := by omega
          have HB := Lib.hid HZ.out.bl
          go_wp2_with fail
          refine (MNO.out _).mono ?_
          rintro e V ⟨rfl, hb⟩
          replace HB := Lib.hid (HB.out.trans (hb.mono HB.out.size))
          clear hb MNO
          dsimp only
          refine list_go (by assumption) ?_
          go_wp2_with fail
          refine (MAW.out _ HB.out).mono ?_
          rintro e V ⟨rfl, hb⟩
          replace HB := Lib.hid (HB.out.trans (hb.mono HB.out.size))
          clear hb MAW
          dsimp only
          refine list_go (by assumption) ?_
          go_wp2
          go_ret
          exact ⟨rfl, HB.out⟩
end Go.Proofs.YtcdnakbdajbfoaaGreatDoor
