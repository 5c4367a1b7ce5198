/-
  Contracts: Of, Fifty, Seventy, of the program and of the document.
-/
import Derived.Test.YthinkiljhkanhaaGreatDoorUa
import Derived.Test.YthinkiljhkanhaaGreatDoorRu
import Derived.Test.YthinkiljhkanhaaGreatDoorRv
namespace Go.Proofs.YthinkiljhkanhaaGreatDoor
open Go.RowKit Go.Sort
set_option linter.unusedSimpArgs false
set_option linter.unusedVariables false
set_option maxRecDepth 20000

def atB (P : Nat → Int) (n : Int) : Bool := posB P && decide (n ≤ P 131)
theorem re_one (P : Nat → Int) (n : Int) : reB P (fun _ => n) 1 = atB P n := by
  unfold reB atB
  simp [List.range_succ, Bool.and_comm]
theorem re_two (P : Nat → Int) : reB P (wayF 100 150) 2 = atB P 150 := by
  unfold reB atB
  cases posB P
  · simp
  · by_cases h : 150 ≤ P 131
    · have h2 : 100 ≤ P 131 := by omega
      simp [List.range_succ, wayF, h, h2]
    · simp [List.range_succ, wayF, h]
theorem q_ii {a b c d : Int} (h : a = b) (h2 : c = d) : Ending.returned (.tuple #[.int .i64 a, .int .i64 c]) = .returned (.tuple #[.int .i64 b, .int .i64 d]) := by rw [h, h2]
set_option maxHeartbeats 4000000 in
set_option maxRecDepth 100000 in
theorem fifty_any (P : Nat → Int) (w : World) (B : Nat) (hgb : GB B w) (hgs : GS B w) (hgm : GM B w) (hgp : GP B w) (hB : B ≤ w.heap.size) :
    Calls Tryz.prog 36 #[.agg (pc P).toArray] w fun e w' => e = .returned (.bool (atB P 100)) ∧ Below w.heap.size w w' := by
  obtain ⟨X, hX⟩ : ∃ X, X = (pc P).toArray := ⟨_, rfl⟩
  rw [← hX]
  have HP00 := Lib.hid (pos_box P w X hX 29)
  have HX := Lib.hid hX
  have HSZ := Lib.hid (show X.size = 133 by rw [hX, pc_size])
  have HFO := Lib.hid (fold_ej X HSZ.out)
  have HBW0 := Lib.hid (below_new (w := w) (.cells X 29))
  have HQ := Lib.hid (fun W b (h1 : PB W b P) h2 => JQ.later h1 hgb hgs hgm hgp hB h2)
  rw [← re_one]
  have HRE := Lib.hid (fun b p c W h hr => reaches_any B b P p 1 c (fun _ => 100) (by omega) W h hr)
  clear hX hgb hgs hgm hgp
  go_enter Tryz.func36, Tryz.ntmps36
  go_upto_region 1 with (fail)
  generalize w.alloc (.cells X 29) = W0 at *
  refine wp_region_lit ?_
  refine wpList_pos (by rfl) _ (by rfl) w.heap.size P X HX.out (by rfl) HP00.out ?_
  have hfold := HFO.out
  have hsz := HSZ.out
  refine wpList_plain rfl (fun K hK => ?_)
  go_simp
  refine hK _ _ ?_
  clear hK K hfold hsz
  refine wpList_newE X P HX.out (by rfl) (by rfl) (fun W2 hp hb hsz => ?_)
  have HB := Lib.hid (HBW0.out.trans (hb.mono HBW0.out.size))
  have HI := Lib.hid (HQ.out _ _ hp HB.out)
  clear hp hb hsz HP00 HBW0 HQ
  generalize W0.heap.size = H at *
  show Exit.then _ _ Exit.normal _ _
  go_wp2_with fail
  have hb : Below W2.heap.size W2 (W2.alloc (.cells #[.int .i64 100] 3)) := below_new _
  refine (HRE.out H _ 1 _ (HI.out.go hb).anew (one_reads W2 100)).mono ?_
  rintro e w3 ⟨rfl, hb3⟩
  replace HB := Lib.hid ((HB.out.trans (hb.mono HB.out.size)).trans (hb3.mono (Nat.le_trans HB.out.size hb.size)))
  clear hb hb3 HRE HI
  dsimp only
  refine list_go (by assumption) ?_
  go_wp2
  go_ret
  exact ⟨q_b rfl, HB.out⟩
set_option maxHeartbeats 4000000 in
set_option maxRecDepth 100000 in
theorem seventy_any (P : Nat → Int) (w : World) (B : Nat) (hgb : GB B w) (hgs : GS B w) (hgm : GM B w) (hgp : GP B w) (hB : B ≤ w.heap.size) :
    Calls Tryz.prog 38 #[.agg (pc P).toArray] w fun e w' => e = .returned (.bool (atB P 150)) ∧ Below w.heap.size w w' := by
  obtain ⟨X, hX⟩ : ∃ X, X = (pc P).toArray := ⟨_, rfl⟩
  rw [← hX]
  have HP00 := Lib.hid (pos_box P w X hX 29)
  have HX := Lib.hid hX
  have HSZ := Lib.hid (show X.size = 133 by rw [hX, pc_size])
  have HFO := Lib.hid (fold_ej X HSZ.out)
  have HBW0 := Lib.hid (below_new (w := w) (.cells X 29))
  have HQ := Lib.hid (fun W b (h1 : PB W b P) h2 => JQ.later h1 hgb hgs hgm hgp hB h2)
  rw [← re_two]
  have HRE := Lib.hid (fun b p c W h hr => reaches_any B b P p 2 c (wayF 100 150) (by omega) W h hr)
  clear hX hgb hgs hgm hgp
  go_enter Tryz.func38, Tryz.ntmps38
  go_upto_region 1 with (fail)
  generalize w.alloc (.cells X 29) = W0 at *
  refine wp_region_lit ?_
  refine wpList_pos (by rfl) _ (by rfl) w.heap.size P X HX.out (by rfl) HP00.out ?_
  have hfold := HFO.out
  have hsz := HSZ.out
  refine wpList_plain rfl (fun K hK => ?_)
  go_simp
  refine hK _ _ ?_
  clear hK K hfold hsz
  refine wpList_newE X P HX.out (by rfl) (by rfl) (fun W2 hp hb hsz => ?_)
  have HB := Lib.hid (HBW0.out.trans (hb.mono HBW0.out.size))
  have HI := Lib.hid (HQ.out _ _ hp HB.out)
  clear hp hb hsz HP00 HBW0 HQ
  generalize W0.heap.size = H at *
  show Exit.then _ _ Exit.normal _ _
  go_wp2_with fail
  have hb : Below W2.heap.size W2 (W2.alloc (.cells #[.int .i64 100, .int .i64 150] 3)) := below_new _
  refine (HRE.out H _ 2 _ (HI.out.go hb).anew (way_reads W2 100 150)).mono ?_
  rintro e w3 ⟨rfl, hb3⟩
  replace HB := Lib.hid ((HB.out.trans (hb.mono HB.out.size)).trans (hb3.mono (Nat.le_trans HB.out.size hb.size)))
  clear hb hb3 HRE HI
  dsimp only
  refine list_go (by assumption) ?_
  go_wp2
  go_ret
  exact ⟨q_b rfl, HB.out⟩
set_option maxHeartbeats 4000000 in
set_option maxRecDepth 100000 in
theorem of_any (P : Nat → Int) (w : World) (B : Nat) (hgb : GB B w) (hgs : GS B w) (hgm : GM B w) (hgp : GP B w) (hB : B ≤ w.heap.size) :
    Calls Tryz.prog 34 #[.agg (pc P).toArray] w fun e w' => e = .returned (.tuple #[.int .i64 (ofR P), .int .i64 (ofY P)]) ∧ Below w.heap.size w w' := by
  obtain ⟨X, hX⟩ : ∃ X, X = (pc P).toArray := ⟨_, rfl⟩
  rw [← hX]
  have HP00 := Lib.hid (pos_box P w X hX 29)
  have HX := Lib.hid hX
  have HSZ := Lib.hid (show X.size = 133 by rw [hX, pc_size])
  have HFO := Lib.hid (fold_ej X HSZ.out)
  have HBW0 := Lib.hid (below_new (w := w) (.cells X 29))
  have HQ := Lib.hid (fun W b (h1 : PB W b P) h2 => JQ.later h1 hgb hgs hgm hgp hB h2)
  have HS := Lib.hid (fun b W h => stuck_any B b P W h)
  have HK := Lib.hid (fun b W h => checked_any B b P W h)
  have HL := Lib.hid (fun b W h => lost_any b P W h)
  obtain ⟨st, hst⟩ : ∃ x, stkB P = x := ⟨_, rfl⟩
  obtain ⟨ch, hch⟩ : ∃ x, chkB P (P 128) = x := ⟨_, rfl⟩
  obtain ⟨wn, hwn⟩ : ∃ x, winN (oth (P 128)) = x := ⟨_, rfl⟩
  have HR := Lib.hid (show ofR P = if st then (if ch then wn else 3) else 0 by unfold ofR; rw [hst, hch, hwn])
  have HY := Lib.hid (show ofY P = if st then (if ch then 1 else 2) else 0 by unfold ofY; rw [hst, hch])
  rw [hst] at HS
  rw [hch] at HK
  rw [hwn] at HL
  clear hX hgb hgs hgm hgp hst hch hwn
  go_enter Tryz.func34, Tryz.ntmps34
  go_upto_region 1 with (fail)
  generalize w.alloc (.cells X 29) = W0 at *
  refine wp_region_lit ?_
  refine wpList_pos (by rfl) _ (by rfl) w.heap.size P X HX.out (by rfl) HP00.out ?_
  have hfold := HFO.out
  have hsz := HSZ.out
  refine wpList_plain rfl (fun K hK => ?_)
  go_simp
  refine hK _ _ ?_
  clear hK K hfold hsz
  refine wpList_newE X P HX.out (by rfl) (by rfl) (fun W2 hp hb hsz => ?_)
  have HB := Lib.hid (HBW0.out.trans (hb.mono HBW0.out.size))
  have HI := Lib.hid (HQ.out _ _ hp HB.out)
  clear hp hb hsz HP00 HBW0 HQ
  generalize W0.heap.size = H at *
  show Exit.then _ _ Exit.normal _ _
  go_wp2_with fail
  refine (HS.out H W2 HI.out).mono ?_
  rintro e w3 ⟨rfl, hb⟩
  replace HB := Lib.hid (HB.out.trans (hb.mono HB.out.size))
  replace HI := Lib.hid (HI.out.go hb).anew
  clear hb HS
  dsimp only
  refine list_go (by assumption) ?_
  cases st
  · go_wp2
    go_ret2
    exact ⟨q_ii (by rw [HR.out]; rfl) (by rw [HY.out]; rfl), HB.out⟩
  · go_wp2_with fail
    refine (HK.out H w3 HI.out).mono ?_
    rintro e w4 ⟨rfl, hb⟩
    replace HB := Lib.hid (HB.out.trans (hb.mono HB.out.size))
    replace HI := Lib.hid (HI.out.go hb).anew
    clear hb HK
    dsimp only
    refine list_go (by assumption) ?_
    cases ch
    · go_wp2
      go_ret2
      exact ⟨q_ii (by rw [HR.out]; rfl) (by rw [HY.out]; rfl), HB.out⟩
    · go_wp2_with fail
      refine (HL.out H w4 HI.out.p).mono ?_
      rintro e w5 ⟨rfl, rfl⟩
      dsimp only
      refine list_go (by assumption) ?_
      go_wp2
      go_ret2
      exact ⟨q_ii (by rw [HR.out]; rfl) (by rw [HY.out]; rfl), HB.out⟩
set_option maxHeartbeats 1000000 in
theorem rWins_any (d : Int) (w : World) :
    Calls Tryz.prog 41 #[.int .i64 d] w fun e w' => e = .returned (.int .i64 (winN d)) ∧ w = w' := by
  by_cases h : d = 1
  · subst h
    go_enter Tryz.func41, Tryz.ntmps41
    go_wp2
    go_ret
    exact ⟨rfl, rfl⟩
  · have HV := Lib.hid (show winN d = 1 by unfold winN; rw [if_neg h])
    have hb : (d == 1) = false := by simp [h]
    clear h
    go_enter Tryz.func41, Tryz.ntmps41
    go_wp2
    go_ret
    exact ⟨q_i2 HV.out.symm, rfl⟩
set_option maxHeartbeats 4000000 in
set_option maxRecDepth 100000 in
theorem rFifty_any (P : Nat → Int) (w : World) :
    Calls Tryz.prog 37 #[.agg (pc P).toArray] w fun e w' => e = .returned (.bool (atB P 100)) ∧ Below w.heap.size w w' := by
  obtain ⟨X, hX⟩ : ∃ X, X = (pc P).toArray := ⟨_, rfl⟩
  have MP := Lib.hid (fun W => rPosition_any P W)
  rw [← hX] at MP ⊢
  have HX := Lib.hid hX
  have HP := Lib.hid (pos_box P w X hX 29)
  have HB := Lib.hid (below_new (w := w) (.cells X 29))
  obtain ⟨ps, hps⟩ : ∃ b, posB P = b := ⟨_, rfl⟩
  obtain ⟨hf, hhf⟩ : ∃ x, P 131 = x := ⟨_, rfl⟩
  have HC := Lib.hid (show ∀ W, PB W w.heap.size P → W.cell? ⟨w.heap.size, 131, none⟩ = some (.int .i64 hf) from fun W hp => by rw [← hhf]; exact hp.cell 131 (by omega))
  rw [hps] at MP
  have HV := Lib.hid (show atB P 100 = (ps && decide (100 ≤ hf)) by unfold atB; rw [hps, hhf])
  clear hX hps hhf
  go_enter Tryz.func37, Tryz.ntmps37
  go_upto_region 1 with (fail)
  generalize w.alloc (.cells X 29) = W at *
  go_wp2_with (refine wpList_pos (by rfl) _ (by rfl) w.heap.size P X HX.out (by rfl) HP.out ?_)
  refine (MP.out _).mono ?_
  rintro e w1 ⟨rfl, hb⟩
  replace HP := Lib.hid (HP.out.go hb)
  replace HB := Lib.hid (HB.out.trans (hb.mono HB.out.size))
  clear hb MP
  dsimp only
  refine list_go (by assumption) ?_
  cases ps
  · go_wp2
    go_ret
    exact ⟨q_b (by rw [HV.out]; rfl), HB.out⟩
  · have e1 := HC.out _ HP.out
    go_wp2
    go_ret
    exact ⟨q_b (by rw [HV.out]; rfl), HB.out⟩
set_option maxHeartbeats 4000000 in
set_option maxRecDepth 100000 in
theorem rSeventy_any (P : Nat → Int) (w : World) :
    Calls Tryz.prog 39 #[.agg (pc P).toArray] w fun e w' => e = .returned (.bool (atB P 150)) ∧ Below w.heap.size w w' := by
  obtain ⟨X, hX⟩ : ∃ X, X = (pc P).toArray := ⟨_, rfl⟩
  have MP := Lib.hid (fun W => rPosition_any P W)
  rw [← hX] at MP ⊢
  have HX := Lib.hid hX
  have HP := Lib.hid (pos_box P w X hX 29)
  have HB := Lib.hid (below_new (w := w) (.cells X 29))
  obtain ⟨ps, hps⟩ : ∃ b, posB P = b := ⟨_, rfl⟩
  obtain ⟨hf, hhf⟩ : ∃ x, P 131 = x := ⟨_, rfl⟩
  have HC := Lib.hid (show ∀ W, PB W w.heap.size P → W.cell? ⟨w.heap.size, 131, none⟩ = some (.int .i64 hf) from fun W hp => by rw [← hhf]; exact hp.cell 131 (by omega))
  rw [hps] at MP
  have HV := Lib.hid (show atB P 150 = (ps && decide (150 ≤ hf)) by unfold atB; rw [hps, hhf])
  clear hX hps hhf
  go_enter Tryz.func39, Tryz.ntmps39
  go_upto_region 1 with (fail)
  generalize w.alloc (.cells X 29) = W at *
  go_wp2_with (refine wpList_pos (by rfl) _ (by rfl) w.heap.size P X HX.out (by rfl) HP.out ?_)
  refine (MP.out _).mono ?_
  rintro e w1 ⟨rfl, hb⟩
  replace HP := Lib.hid (HP.out.go hb)
  replace HB := Lib.hid (HB.out.trans (hb.mono HB.out.size))
  clear hb MP
  dsimp only
  refine list_go (by assumption) ?_
  cases ps
  · go_wp2
    go_ret
    exact ⟨q_b (by rw [HV.out]; rfl), HB.out⟩
  · have e1 := HC.out _ HP.out
    go_wp2
    go_ret
    exact ⟨q_b (by rw [HV.out]; rfl), HB.out⟩
set_option maxHeartbeats 4000000 in
set_option maxRecDepth 100000 in
theorem rOf_any (P : Nat → Int) (w : World) :
    Calls Tryz.prog 35 #[.agg (pc P).toArray] w fun e w' => e = .returned (.tuple #[.int .i64 (ofR P), .int .i64 (ofY P)]) ∧ Below w.heap.size w w' := by
  obtain ⟨X, hX⟩ : ∃ X, X = (pc P).toArray := ⟨_, rfl⟩
  have MP := Lib.hid (fun W => rPosition_any P W)
  have MM := Lib.hid (fun W => rMoves10_any P W)
  obtain ⟨sd, hsd⟩ : ∃ x, P 128 = x := ⟨_, rfl⟩
  have MC1 := Lib.hid (fun W => rChk_any P sd W)
  have MW := Lib.hid (fun W => rWins_any (oth sd) W)
  have MO := Lib.hid (fun W => rOther_any sd W)
  rw [← hX] at MP MM MC1 ⊢
  have HX := Lib.hid hX
  have HP := Lib.hid (pos_box P w X hX 29)
  have HB := Lib.hid (below_new (w := w) (.cells X 29))
  obtain ⟨ps, hps⟩ : ∃ b, posB P = b := ⟨_, rfl⟩
  obtain ⟨ch, hch⟩ : ∃ x, chkB P sd = x := ⟨_, rfl⟩
  obtain ⟨od, hod⟩ : ∃ x, oth sd = x := ⟨_, rfl⟩
  obtain ⟨wn, hwn⟩ : ∃ x, winN od = x := ⟨_, rfl⟩
  obtain ⟨n, hn⟩ : ∃ n, (lmM P).length = n := ⟨_, rfl⟩
  have hst : stkB P = (ps && decide (n = 0)) := by
    unfold stkB
    rw [hps, ← hn]
    unfold lmM
    rw [hps]
    cases ps
    · rfl
    · rw [Bool.eq_iff_iff]; simp
  have HR := Lib.hid (show ofR P = if (ps && decide (n = 0)) then (if ch then wn else 3) else 0 by unfold ofR; rw [hst, hsd, hch, hod, hwn])
  have HY := Lib.hid (show ofY P = if (ps && decide (n = 0)) then (if ch then 1 else 2) else 0 by unfold ofY; rw [hst, hsd, hch])
  have HC := Lib.hid (show ∀ W, PB W w.heap.size P → W.cell? ⟨w.heap.size, 128, none⟩ = some (.int .i64 sd) from fun W hp => by rw [← hsd]; exact hp.cell 128 (by omega))
  have HOWN := Lib.hid (fun (W : World) base v (h : W.ownsRow base 41 3 v (lmM P).length (mvals (lmM P))) => reads3_own h)
  rw [hps] at MP
  rw [hch] at MC1
  rw [hod] at MW MO
  rw [hwn] at MW
  rw [hn] at MM HOWN
  have hnb : n ≤ 17920 := by rw [← hn]; exact lm_len P
  clear hX hps hch hod hwn hn hst hsd
  go_enter Tryz.func35, Tryz.ntmps35
  go_upto_region 1 with (fail)
  generalize w.alloc (.cells X 29) = W at *
  go_wp2_with (refine wpList_pos (by rfl) _ (by rfl) w.heap.size P X HX.out (by rfl) HP.out ?_)
  refine (MM.out _).mono ?_
  rintro e w1 ⟨v, rfl, hb, hown⟩
  replace HP := Lib.hid (HP.out.go hb)
  replace HB := Lib.hid (HB.out.trans (hb.mono HB.out.size))
  obtain ⟨p, c, rfl, _⟩ := HOWN.out _ _ _ hown
  clear hb hown MM HOWN
  dsimp only
  refine list_go (by assumption) ?_
  go_wp2_with (refine wpList_pos (by rfl) _ (by rfl) w.heap.size P X HX.out (by rfl) HP.out ?_)
  refine (MP.out _).mono ?_
  rintro e w2 ⟨rfl, hb⟩
  replace HP := Lib.hid (HP.out.go hb)
  replace HB := Lib.hid (HB.out.trans (hb.mono HB.out.size))
  clear hb MP
  dsimp only
  refine list_go (by assumption) ?_
  cases ps
  · go_wp2
    go_ret2
    exact ⟨q_ii (by rw [HR.out]; rfl) (by rw [HY.out]; rfl), HB.out⟩
  by_cases h0 : n = 0
  case neg =>
    have hg : (0 : Int) < (n : Int) := by omega
    have hd : decide (n = 0) = false := by simp [h0]
    rw [hd] at HR HY
    clear hd h0
    go_wp2
    go_ret2
    exact ⟨q_ii (by rw [HR.out]; rfl) (by rw [HY.out]; rfl), HB.out⟩
  subst h0
  have e1 := HC.out _ HP.out
  go_wp2_with (refine wpList_pos (by rfl) _ (by rfl) w.heap.size P X HX.out (by rfl) HP.out ?_)
  refine (MC1.out _).mono ?_
  rintro e w3 ⟨rfl, hb⟩
  replace HP := Lib.hid (HP.out.go hb)
  replace HB := Lib.hid (HB.out.trans (hb.mono HB.out.size))
  clear hb MC1 e1
  dsimp only
  refine list_go (by assumption) ?_
  cases ch
  · go_wp2
    go_ret2
    exact ⟨q_ii (by rw [HR.out]; rfl) (by rw [HY.out]; rfl), HB.out⟩
  · have e1 := HC.out _ HP.out
    go_wp2_with fail
    refine (MO.out _).mono ?_
    rintro e w4 ⟨rfl, rfl⟩
    clear MO
    dsimp only
    refine list_go (by assumption) ?_
    go_wp2_with fail
    refine (MW.out _).mono ?_
    rintro e w4 ⟨rfl, rfl⟩
    dsimp only
    refine list_go (by assumption) ?_
    go_wp2
    go_ret2
    exact ⟨q_ii (by rw [HR.out]; rfl) (by rw [HY.out]; rfl), HB.out⟩
end Go.Proofs.YthinkiljhkanhaaGreatDoor
