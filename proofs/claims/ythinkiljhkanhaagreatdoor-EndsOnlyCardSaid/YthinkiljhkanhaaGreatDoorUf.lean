/-
  EndsOnly: a position ends a game just if there is no legal move.
-/
import Derived.Test.YthinkiljhkanhaaGreatDoorUc
import Derived.Test.YthinkiljhkanhaaGreatDoorRr
namespace Go.Proofs.YthinkiljhkanhaaGreatDoor
open Go.RowKit Go.Sort
set_option linter.unusedSimpArgs false
set_option linter.unusedVariables false
set_option maxRecDepth 20000

theorem stk_turn (P : Nat → Int) (hr : rightB P = true) : stkB (turnN P) = stkB P := by
  unfold stkB
  rw [pos_turn P hr]
  cases hp : posB P
  · simp
  · have h := leg_turn_len P hp
    simp only [Bool.true_and]
    rw [Bool.eq_iff_iff, List.isEmpty_iff_length_eq_zero, List.isEmpty_iff_length_eq_zero, h]
theorem chk_turn_own (P : Nat → Int) (hr : rightB P = true) : chkB (turnN P) (turnN P 128) = chkB P (P 128) := by
  have hd := right_side P hr
  rw [(turnN_parts P).1, chk_turn P (right_fit P hr) hd _ hd]
theorem of_turn (P : Nat → Int) (hr : rightB P = true) : ofY (turnN P) = ofY P ∧ ofR (turnN P) = if stkB P then (if chkB P (P 128) then winN (P 128) else 3) else 0 := by
  have hd := right_side P hr
  unfold ofY ofR
  rw [stk_turn P hr, chk_turn_own P hr, (turnN_parts P).1, (oth_side hd).2.1]
  exact ⟨rfl, rfl⟩
set_option maxHeartbeats 16000000 in
set_option maxRecDepth 100000 in
theorem endsOnly_any (P : Nat → Int) (w : World) (B : Nat) (hgb : GB B w) (hgs : GS B w) (hgm : GM B w) (hgp : GP B w) (hB : B ≤ w.heap.size) :
    Calls Tryz.prog 10 #[.agg (pc P).toArray] w fun e w' => e = .returned (.bool true) ∧ Below w.heap.size w w' := by
  obtain ⟨X, hX⟩ : ∃ X, X = (pc P).toArray := ⟨_, rfl⟩
  obtain ⟨T, hT⟩ : ∃ T, turnN P = T := ⟨_, rfl⟩
  obtain ⟨Y, hY⟩ : ∃ Y, Y = (pc T).toArray := ⟨_, rfl⟩
  obtain ⟨sd, hsd⟩ : ∃ x, P 128 = x := ⟨_, rfl⟩
  have OF := Lib.hid (fun W (h : Below w.heap.size w W) => of_any P W B (hgb.below (h.mono hB)) (hgs.below (h.mono hB)) (hgm.below (h.mono hB)) (hgp.below (h.mono hB)) (Nat.le_trans hB h.size))
  have OT := Lib.hid (fun W (h : Below w.heap.size w W) => of_any T W B (hgb.below (h.mono hB)) (hgs.below (h.mono hB)) (hgm.below (h.mono hB)) (hgp.below (h.mono hB)) (Nat.le_trans hB h.size))
  have MP := Lib.hid (fun W (h : Below w.heap.size w W) => position_any P W B (hgb.below (h.mono hB)) (hgs.below (h.mono hB)) (hgm.below (h.mono hB)) (hgp.below (h.mono hB)) (Nat.le_trans hB h.size))
  have MM := Lib.hid (fun W (h : Below w.heap.size w W) => lMoves_any P W B (hgb.below (h.mono hB)) (hgs.below (h.mono hB)) (hgm.below (h.mono hB)) (hgp.below (h.mono hB)) (Nat.le_trans hB h.size))
  have MR := Lib.hid (fun W (h : Below w.heap.size w W) => right_any P W B (hgb.below (h.mono hB)) (Nat.le_trans hB h.size))
  have MC1 := Lib.hid (fun W (h : Below w.heap.size w W) => chk_any P sd W B (hgs.below (h.mono hB)) (Nat.le_trans hB h.size))
  have AW := Lib.hid (fun W (h : Below w.heap.size w W) => awake11_any W B (hgb.below (h.mono hB)) (hgs.below (h.mono hB)) (hgm.below (h.mono hB)) (hgp.below (h.mono hB)) (Nat.le_trans hB h.size))
  have MT := Lib.hid (fun W => turn_any P W)
  have MO := Lib.hid (fun W => other_any sd W)
  have MW := Lib.hid (fun W => wins_any (oth sd) W)
  rw [hT] at MT
  rw [← hX] at OF MP MM MR MC1 MT ⊢
  rw [← hY] at OT MT
  obtain ⟨rb, hrb⟩ : ∃ b, rightB P = b := ⟨_, rfl⟩
  obtain ⟨ps, hps⟩ : ∃ b, posB P = b := ⟨_, rfl⟩
  obtain ⟨st, hst⟩ : ∃ b, stkB P = b := ⟨_, rfl⟩
  obtain ⟨ch, hch⟩ : ∃ b, chkB P sd = b := ⟨_, rfl⟩
  have HTR := Lib.hid (fun (h : rb = true) => of_turn P (by rw [hrb, h]))
  have hor : ofR P = if st then (if ch then winN (oth sd) else 3) else 0 := by unfold ofR; rw [hst, hsd, hch]
  have hoy : ofY P = if st then (if ch then 1 else 2) else 0 := by unfold ofY; rw [hst, hsd, hch]
  rw [hT, hst, hsd, hch, hoy] at HTR
  obtain ⟨n, hn⟩ : ∃ n, (lmM P).length = n := ⟨_, rfl⟩
  have hst2 : st = (ps && decide (n = 0)) := by
    rw [← hst]
    unfold stkB
    rw [hps, ← hn]
    unfold lmM
    rw [hps]
    cases ps
    · rfl
    · rw [Bool.eq_iff_iff]; simp
  have HST := Lib.hid hst2
  have HSR := Lib.hid (show st = true → rb = true ∧ (sd = 0 ∨ sd = 1) from fun h => by
    have : posB P = true := by rw [hps]; rw [h] at hst2; cases ps; cases hst2; rfl
    have hr := (pos_parts P this).1
    exact ⟨by rw [← hrb]; exact hr, by rw [← hsd]; exact right_side P hr⟩)
  have HOWN := Lib.hid (fun (W : World) base v (h : W.ownsRow base 41 3 v (lmM P).length (mvals (lmM P))) => reads3_own h)
  rw [hn] at MM HOWN
  rw [hps] at MP
  rw [hrb] at MR
  rw [hch] at MC1
  have HC := Lib.hid (show ∀ W, PB W w.heap.size P → W.cell? ⟨w.heap.size, 128, none⟩ = some (.int .i64 sd) from fun W hp => by rw [← hsd]; exact hp.cell 128 (by omega))
  rw [hor, hoy] at OF
  obtain ⟨wn, hwn⟩ : ∃ x, winN (oth sd) = x := ⟨_, rfl⟩
  obtain ⟨od, hod⟩ : ∃ x, oth sd = x := ⟨_, rfl⟩
  have HWN := Lib.hid (show (sd = 0 → wn = 2 ∧ winN sd = 1) ∧ (sd = 1 → wn = 1 ∧ winN sd = 2) from ⟨fun h => by rw [← hwn, h]; decide, fun h => by rw [← hwn, h]; decide⟩)
  rw [hwn] at OF MW
  obtain ⟨r, hrr⟩ : ∃ x, (if st = true then (if ch = true then wn else 3) else 0 : Int) = x := ⟨_, rfl⟩
  obtain ⟨y, hyy⟩ : ∃ x, (if st = true then (if ch = true then 1 else 2) else 0 : Int) = x := ⟨_, rfl⟩
  rw [hrr, hyy] at OF
  rw [hyy] at HTR
  have HRR := Lib.hid hrr
  have HYY := Lib.hid hyy
  rw [hod] at MO MW
  have HX := Lib.hid hX
  have HP := Lib.hid (pos_box P w X hX 29)
  have HB := Lib.hid (below_new (w := w) (.cells X 29))
  have hnb : n ≤ 17920 := by
    rw [← hn]; unfold lmM; split
    · exact legM_len P
    · simp
  clear hrr hyy hX hT hY hsd hrb hps hst hch hor hoy hn hst2 hwn hod hgb hgs hgm hgp
  go_enter Tryz.func10, Tryz.ntmps10
  go_upto_region 1 with (fail)
  generalize w.alloc (.cells X 29) = W at *
  go_wp2_with fail
  refine (AW.out _ HB.out).mono ?_
  rintro e w1 ⟨rfl, hb⟩
  replace HP := Lib.hid (HP.out.go hb)
  replace HB := Lib.hid (HB.out.trans (hb.mono HB.out.size))
  clear hb AW
  dsimp only
  refine list_go (by assumption) ?_
  go_wp2_with (refine wpList_pos (by rfl) _ (by rfl) w.heap.size P X HX.out (by rfl) HP.out ?_)
  refine (OF.out _ HB.out).mono ?_
  rintro e w2 ⟨rfl, hb⟩
  replace HP := Lib.hid (HP.out.go hb)
  replace HB := Lib.hid (HB.out.trans (hb.mono HB.out.size))
  clear hb OF
  dsimp only
  refine list_go (by assumption) ?_
  go_upto_region 4 with (fail)
  go_cut [5] from 15 to 22 (fun v wx => v = .bool st ∧ PB wx w.heap.size P ∧ Below w.heap.size w wx)
  case first =>
    go_wp2_with (refine wpList_pos (by rfl) _ (by rfl) w.heap.size P X HX.out (by rfl) HP.out ?_)
    refine (MP.out _ HB.out).mono ?_
    rintro e w3 ⟨rfl, hb⟩
    replace HP := Lib.hid (HP.out.go hb)
    replace HB := Lib.hid (HB.out.trans (hb.mono HB.out.size))
    clear hb MP
    dsimp only
    refine list_go (by assumption) ?_
    have hst := HST.out
    cases ps
    · have HF := Lib.hid (show st = false from hst)
      clear hst
      go_wp2_with fail
      go_meet
      exact ⟨by rw [HF.out], HP.out, HB.out⟩
    · have HF := Lib.hid (show st = decide (n = 0) from hst)
      clear hst
      go_wp2_with (refine wpList_pos (by rfl) _ (by rfl) w.heap.size P X HX.out (by rfl) HP.out ?_)
      refine (MM.out _ HB.out).mono ?_
      rintro e w4 ⟨v, rfl, hb, hown⟩
      replace HP := Lib.hid (HP.out.go hb)
      replace HB := Lib.hid (HB.out.trans (hb.mono HB.out.size))
      obtain ⟨p, c, rfl, _⟩ := HOWN.out _ _ _ hown
      clear hb hown
      dsimp only
      refine list_go (by assumption) ?_
      by_cases h0 : n = 0
      · subst h0
        go_wp2_with fail
        go_meet
        exact ⟨by rw [HF.out]; rfl, HP.out, HB.out⟩
      · have hb0 : ((n : Int) == 0) = false := by simp; omega
        replace HF := Lib.hid (show st = false by rw [HF.out]; simp [h0])
        clear h0
        go_wp2_with fail
        go_meet
        exact ⟨by rw [HF.out], HP.out, HB.out⟩
  case rest =>
  obtain ⟨rfl, h1, h2⟩ := hcut
  have HP := Lib.hid h1
  have HB := Lib.hid h2
  clear h1 h2 HST MM MP HOWN
  cases st
  · obtain rfl : 0 = r := HRR.out
    obtain rfl : 0 = y := HYY.out
    simp only [if_false, Bool.false_eq_true] at HTR
    go_wp2_with (refine wpList_pos (by rfl) _ (by rfl) w.heap.size P X HX.out (by rfl) HP.out ?_)
    refine (MR.out _ HB.out).mono ?_
    rintro e w5 ⟨rfl, hb⟩
    replace HP := Lib.hid (HP.out.go hb)
    replace HB := Lib.hid (HB.out.trans (hb.mono HB.out.size))
    clear hb MR
    dsimp only
    refine list_go (by assumption) ?_
    cases rb
    · go_wp2
      go_ret
      exact ⟨rfl, HB.out⟩
    · have HT := Lib.hid (HTR.out rfl)
      clear HTR
      go_wp2_with (refine wpList_pos (by rfl) _ (by rfl) w.heap.size P X HX.out (by rfl) HP.out ?_)
      refine (MT.out _).mono ?_
      rintro e w6 ⟨rfl, hb⟩
      replace HB := Lib.hid (HB.out.trans (hb.mono HB.out.size))
      clear hb MT HP
      dsimp only
      refine list_go (by assumption) ?_
      go_wp2_with fail
      refine (OT.out _ HB.out).mono ?_
      rintro e w7 ⟨rfl, hb⟩
      replace HB := Lib.hid (HB.out.trans (hb.mono HB.out.size))
      rw [HT.out.1, HT.out.2]
      clear hb OT
      dsimp only
      refine list_go (by assumption) ?_
      go_wp2
      go_ret
      exact ⟨rfl, HB.out⟩
  · obtain ⟨rfl, hsd⟩ := HSR.out rfl
    replace HTR := Lib.hid (HTR.out rfl)
    clear HSR
    cases ch
    · obtain rfl : 3 = r := HRR.out
      obtain rfl : 2 = y := HYY.out
      simp only [if_true, if_false, Bool.false_eq_true] at HTR
      have HT := HTR
      clear HTR hsd HWN
      have e1 := HC.out _ HP.out
      go_wp2_with (refine wpList_pos (by rfl) _ (by rfl) w.heap.size P X HX.out (by rfl) HP.out ?_)
      refine (MC1.out _ HB.out).mono ?_
      rintro e w4 ⟨rfl, hb⟩
      replace HP := Lib.hid (HP.out.go hb)
      replace HB := Lib.hid (HB.out.trans (hb.mono HB.out.size))
      clear hb MC1 e1
      dsimp only
      refine list_go (by assumption) ?_
      go_wp2_with (refine wpList_pos (by rfl) _ (by rfl) w.heap.size P X HX.out (by rfl) HP.out ?_)
      refine (MR.out _ HB.out).mono ?_
      rintro e w5 ⟨rfl, hb⟩
      replace HP := Lib.hid (HP.out.go hb)
      replace HB := Lib.hid (HB.out.trans (hb.mono HB.out.size))
      clear hb MR
      dsimp only
      refine list_go (by assumption) ?_
      go_wp2_with (refine wpList_pos (by rfl) _ (by rfl) w.heap.size P X HX.out (by rfl) HP.out ?_)
      refine (MT.out _).mono ?_
      rintro e w6 ⟨rfl, hb⟩
      replace HB := Lib.hid (HB.out.trans (hb.mono HB.out.size))
      clear hb MT HP
      dsimp only
      refine list_go (by assumption) ?_
      go_wp2_with fail
      refine (OT.out _ HB.out).mono ?_
      rintro e w7 ⟨rfl, hb⟩
      replace HB := Lib.hid (HB.out.trans (hb.mono HB.out.size))
      rw [HT.out.1, HT.out.2]
      clear hb OT
      dsimp only
      refine list_go (by assumption) ?_
      go_wp2
      go_ret
      exact ⟨rfl, HB.out⟩
    · obtain rfl : wn = r := HRR.out
      obtain rfl : 1 = y := HYY.out
      simp only [if_true] at HTR
      have HT := HTR
      clear HTR
      rcases hsd with h0 | h0
      · subst h0
        obtain ⟨rfl, hw2⟩ := HWN.out.1 rfl
        rw [hw2] at HT
        clear HWN hw2
        have e1 := HC.out _ HP.out
        go_wp2_with (refine wpList_pos (by rfl) _ (by rfl) w.heap.size P X HX.out (by rfl) HP.out ?_)
        refine (MC1.out _ HB.out).mono ?_
        rintro e w4 ⟨rfl, hb⟩
        replace HP := Lib.hid (HP.out.go hb)
        replace HB := Lib.hid (HB.out.trans (hb.mono HB.out.size))
        clear hb MC1 e1
        dsimp only
        refine list_go (by assumption) ?_
        have e1 := HC.out _ HP.out
        go_wp2_with fail
        refine (MO.out _).mono ?_
        rintro e w8 ⟨rfl, rfl⟩
        dsimp only
        refine list_go (by assumption) ?_
        go_wp2_with fail
        refine (MW.out _).mono ?_
        rintro e w8 ⟨rfl, rfl⟩
        clear e1
        dsimp only
        refine list_go (by assumption) ?_
        go_wp2_with (refine wpList_pos (by rfl) _ (by rfl) w.heap.size P X HX.out (by rfl) HP.out ?_)
        refine (MR.out _ HB.out).mono ?_
        rintro e w5 ⟨rfl, hb⟩
        replace HP := Lib.hid (HP.out.go hb)
        replace HB := Lib.hid (HB.out.trans (hb.mono HB.out.size))
        clear hb MR
        dsimp only
        refine list_go (by assumption) ?_
        go_wp2_with (refine wpList_pos (by rfl) _ (by rfl) w.heap.size P X HX.out (by rfl) HP.out ?_)
        refine (MT.out _).mono ?_
        rintro e w6 ⟨rfl, hb⟩
        replace HB := Lib.hid (HB.out.trans (hb.mono HB.out.size))
        clear hb MT HP
        dsimp only
        refine list_go (by assumption) ?_
        go_wp2_with fail
        refine (OT.out _ HB.out).mono ?_
        rintro e w7 ⟨rfl, hb⟩
        replace HB := Lib.hid (HB.out.trans (hb.mono HB.out.size))
        rw [HT.out.1, HT.out.2]
        clear hb OT
        dsimp only
        refine list_go (by assumption) ?_
        go_wp2
        go_ret
        exact ⟨rfl, HB.out⟩
      · subst h0
        obtain ⟨rfl, hw2⟩ := HWN.out.2 rfl
        rw [hw2] at HT
        clear HWN hw2
        have e1 := HC.out _ HP.out
        go_wp2_with (refine wpList_pos (by rfl) _ (by rfl) w.heap.size P X HX.out (by rfl) HP.out ?_)
        refine (MC1.out _ HB.out).mono ?_
        rintro e w4 ⟨rfl, hb⟩
        replace HP := Lib.hid (HP.out.go hb)
        replace HB := Lib.hid (HB.out.trans (hb.mono HB.out.size))
        clear hb MC1 e1
        dsimp only
        refine list_go (by assumption) ?_
        have e1 := HC.out _ HP.out
        go_wp2_with fail
        refine (MO.out _).mono ?_
        rintro e w8 ⟨rfl, rfl⟩
        dsimp only
        refine list_go (by assumption) ?_
        go_wp2_with fail
        refine (MW.out _).mono ?_
        rintro e w8 ⟨rfl, rfl⟩
        clear e1
        dsimp only
        refine list_go (by assumption) ?_
        go_wp2_with (refine wpList_pos (by rfl) _ (by rfl) w.heap.size P X HX.out (by rfl) HP.out ?_)
        refine (MR.out _ HB.out).mono ?_
        rintro e w5 ⟨rfl, hb⟩
        replace HP := Lib.hid (HP.out.go hb)
        replace HB := Lib.hid (HB.out.trans (hb.mono HB.out.size))
        clear hb MR
        dsimp only
        refine list_go (by assumption) ?_
        go_wp2_with (refine wpList_pos (by rfl) _ (by rfl) w.heap.size P X HX.out (by rfl) HP.out ?_)
        refine (MT.out _).mono ?_
        rintro e w6 ⟨rfl, hb⟩
        replace HB := Lib.hid (HB.out.trans (hb.mono HB.out.size))
        clear hb MT HP
        dsimp only
        refine list_go (by assumption) ?_
        go_wp2_with fail
        refine (OT.out _ HB.out).mono ?_
        rintro e w7 ⟨rfl, hb⟩
        replace HB := Lib.hid (HB.out.trans (hb.mono HB.out.size))
        rw [HT.out.1, HT.out.2]
        clear hb OT
        dsimp only
        refine list_go (by assumption) ?_
        go_wp2
        go_ret
        exact ⟨rfl, HB.out⟩
end Go.Proofs.YthinkiljhkanhaaGreatDoor
