/-
  Contracts: Of, Fifty, Seventy, of the program and of the document.
-/
import Derived.Test.YthinkiljhkanhaaGreatDoorUa
namespace Go.Proofs.YthinkiljhkanhaaGreatDoor
open Go.RowKit Go.Sort
set_option linter.unusedSimpArgs false
set_option linter.unusedVariables false
set_option maxRecDepth 20000

def atB (P : Nat → Int) (n : Int) : Bool := posB P && decide (n ≤ P 131)
theorem re_one (P : Nat → Int) (n : Int) : reB P (fun _ => n) 1 = atB P n := by
  unfold reB atB
  simp [List.range_succ, Bool.and_comm]
theorem re_two (P : Nat → Int) : reB P (wayF 100 150) 2 = atB P 150 := by
  unfold reB atB
  cases posB P
  · simp
  · by_cases h : 150 ≤ P 131
    · have h2 : 100 ≤ P 131 := by omega
      simp [List.range_succ, wayF, h, h2]
    · simp [List.range_succ, wayF, h]
theorem q_ii {a b c d : Int} (h : a = b) (h2 : c = d) : Ending.returned (.tuple #[.int .i64 a, .int .i64 c]) = .returned (.tuple #[.int .i64 b, .int .i64 d]) := by rw [h, h2]
set_option maxHeartbeats 4000000 in
set_option maxRecDepth 100000 in
theorem fifty_any (P : Nat → Int) (w : World) (B : Nat) (hgb : GB B w) (hgs : GS B w) (hgm : GM B w) (hgp : GP B w) (hB : B ≤ w.heap.size) :
    Calls Tryz.prog 36 #[.agg (pc P).toArray] w fun e w' => e = .returned (.bool (atB P 100)) ∧ Below w.heap.size w w' := by
  obtain ⟨X, hX⟩ : ∃ X, X = (pc P).toArray := ⟨_, rfl⟩
  rw [← hX]
  have HP00 := Lib.hid (pos_box P w X hX 29)
  have HX := Lib.hid hX
  have HSZ := Lib.hid (show X.size = 133 by rw [hX, pc_size])
  have HFO := Lib.hid (fold_ej X HSZ.out)
  have HBW0 := Lib.hid (below_new (w := w) (.cells X 29))
  have HQ := Lib.hid (fun W b (h1 : PB W b P) h2 => JQ.later h1 hgb hgs hgm hgp hB h2)
  rw [← re_one]
  have HRE := Lib.hid (fun b p c W h hr => reaches_any B b P p 1 c (fun _ => 100) (by omega) W h hr)
  clear hX hgb hgs hgm hgp
  go_enter Tryz.func36, Tryz.ntmps36
  go_upto_region 1 with (fail)
  generalize w.alloc (.cells X 29) = W0 at *
  refine wp_region_lit ?_
  refine wpList_pos (by rfl) _ (by rfl) w.heap.size P X HX.out (by rfl) HP00.out ?_
  have hfold := HFO.out
  have hsz := HSZ.out
  refine wpList_plain rfl (fun K hK => ?_)
  go_simp
  refine hK _ _ ?_
  clear hK K hfold hsz
  refine wpList_newE X P HX.out (by rfl) (by rfl) (fun W2 hp hb hsz => ?_)
  have HB := Lib.hid (HBW0.out.trans (hb.mono HBW0.out.size))
  have HI := Lib.hid (HQ.out _ _ hp HB.out)
  clear hp hb hsz HP00 HBW0 HQ
  generalize W0.heap.size = H at *
  show Exit.then _ _ Exit.normal _ _
  go_wp2_with fail
  have hb : Below W2.heap.size W2 (W2.alloc (.cells #[.int .i64 100] 3)) := below_new _
  refine (HRE.out H _ 1 _ (HI.out.go hb).anew (one_reads W2 100)).mono ?_
  rintro e w3 ⟨rfl, hb3⟩
  replace HB := Lib.hid ((HB.out.trans (hb.mono HB.out.size)).trans (hb3.mono (Nat.le_trans HB.out.size hb.size)))
  clear hb hb3 HRE HI
  dsimp only
  refine list_go (by assumption) ?_
  go_wp2
  go_ret
  exact ⟨q_b rfl, HB.out⟩
set_option maxHeartbeats 4000000 in
set_option maxRecDepth 100000 in
theorem seventy_any (P : Nat → Int) (w : World) (B : Nat) (hgb : GB B w) (hgs : GS B w) (hgm : GM B w) (hgp : GP B w) (hB : B ≤ w.heap.size) :
    Calls Tryz.prog 38 #[.agg (pc P).toArray] w fun e w' => e = .returned (.bool (atB P 150)) ∧ Below w.heap.size w w' := by
  obtain ⟨X, hX⟩ : ∃ X, X = (pc P).toArray := ⟨_, rfl⟩
  rw [← hX]
  have HP00 := Lib.hid (pos_box P w X hX 29)
  have HX := Lib.hid hX
  have HSZ := Lib.hid (show X.size = 133 by rw [hX, pc_size])
  have HFO := Lib.hid (fold_ej X HSZ.out)
  have HBW0 := Lib.hid (below_new (w := w) (.cells X 29))
  have HQ := Lib.hid (fun W b (h1 : PB W b P) h2 => JQ.later h1 hgb hgs hgm hgp hB h2)
  rw [← re_two]
  have HRE := Lib.hid (fun b p c W h hr => reaches_any B b P p 2 c (wayF 100 150) (by omega) W h hr)
  clear hX hgb hgs hgm hgp
  go_enter Tryz.func38, Tryz.ntmps38
  go_upto_region 1 with (fail)
  generalize w.alloc (.cells X 29) = W0 at *
  refine wp_region_lit ?_
  refine wpList_pos (by rfl) _ (by rfl) w.heap.size P X HX.out (by rfl) HP00.out ?_
  have hfold := HFO.out
  have hsz := HSZ.out
  refine wpList_plain rfl (fun K hK => ?_)
  go_simp
  refine hK _ _ ?_
  clear hK K hfold hsz
  refine wpList_newE X P HX.out (by rfl) (by rfl) (fun W2 hp hb hsz => ?_)
  have HB := Lib.hid (HBW0.out.trans (hb.mono HBW0.out.size))
  have HI := Lib.hid (HQ.out _ _ hp HB.out)
  clear hp hb hsz HP00 HBW0 HQ
  generalize W0.heap.size = H at *
  show Exit.then _ _ Exit.normal _ _
  go_wp2_with fail
  have hb : Below W2.heap.size W2 (W2.alloc (.cells #[.int .i64 100, .int .i64 150] 3)) := below_new _
  refine (HRE.out H _ 2 _ (HI.out.go hb).anew (way_reads W2 100 150)).mono ?_
  rintro e w3 ⟨rfl, hb3⟩
  replace HB := Lib.hid ((HB.out.trans (hb.mono HB.out.size)).trans (hb3.mono (Nat.le_trans HB.out.size hb.size)))
  clear hb hb3 HRE HI
  dsimp only
  refine list_go (by assumption) ?_
  go_wp2
  go_ret
  exact ⟨q_b rfl, HB.out⟩
set_option maxHeartbeats 4000000 in
set_option maxRecDepth 100000 in
theorem of_any (P : Nat → Int) (w : World) (B : Nat) (hgb : GB B w) (hgs : GS B w) (hgm : GM B w) (hgp : GP B w) (hB : B ≤ w.heap.size) :
    Calls Tryz.prog 34 #[.agg (pc P).toArray] w fun e w' => e = .returned (.tuple #[.int .i64 (ofR P), .int .i64 (ofY P)]) ∧ Below w.heap.size w w' := by
  obtain ⟨X, hX⟩ : ∃ X, X = (pc P).toArray := ⟨_, rfl⟩
  rw [← hX]
  have HP00 := Lib.hid (pos_box P w X hX 29)
  have HX := Lib.hid hX
  have HSZ := Lib.hid (show X.size = 133 by rw [hX, pc_size])
  have HFO := Lib.hid (fold_ej X HSZ.out)
  have HBW0 := Lib.hid (below_new (w := w) (.cells X 29))
  have HQ := Lib.hid (fun W b (h1 : PB W b P) h2 => JQ.later h1 hgb hgs hgm hgp hB h2)
  have HS := Lib.hid (fun b W h => stuck_any B b P W h)
  have HK := Lib.hid (fun b W h => checked_any B b P W h)
  have HL := Lib.hid (fun b W h => lost_any b P W h)
  obtain ⟨st, hst⟩ : ∃ x, stkB P = x := ⟨_, rfl⟩
  obtain ⟨ch, hch⟩ : ∃ x, chkB P (P 128) = x := ⟨_, rfl⟩
  obtain ⟨wn, hwn⟩ : ∃ x, winN (oth (P 128)) = x := ⟨_, rfl⟩
  have HR := Lib.hid (show ofR P = if st then (if ch then wn else 3) else 0 by unfold ofR; rw [hst, hch, hwn])
  have HY := Lib.hid (show ofY P = if st then (if ch then 1 else 2) else 0 by unfold ofY; rw [hst, hch])
  rw [hst] at HS
  rw [hch] at HK
  rw [hwn] at HL
  clear hX hgb hgs hgm hgp hst hch hwn
  go_enter Tryz.func34, Tryz.ntmps34
  go_upto_region 1 with (fail)
  generalize w.alloc (.cells X 29) = W0 at *
  refine wp_region_lit ?_
  refine wpList_pos (by rfl) _ (by rfl) w.heap.size P X HX.out (by rfl) HP00.out ?_
  have hfold := HFO.out
  have hsz := HSZ.out
  refine wpList_plain rfl (fun K hK => ?_)
  go_simp
  refine hK _ _ ?_
  clear hK K hfold hsz
  refine wpList_newE X P HX.out (by rfl) (by rfl) (fun W2 hp hb hsz => ?_)
  have HB := Lib.hid (HBW0.out.trans (hb.mono HBW0.out.size))
  have HI := Lib.hid (HQ.out _ _ hp HB.out)
  clear hp hb hsz HP00 HBW0 HQ
  generalize W0.heap.size = H at *
  show Exit.then _ _ Exit.normal _ _
  go_wp2_with fail
  refine (HS.out H W2 HI.out).mono ?_
  rintro e w3 ⟨rfl, hb⟩
  replace HB := Lib.hid (HB.out.trans (hb.mono HB.out.size))
  replace HI := Lib.hid (HI.out.go hb).anew
  clear hb HS
  dsimp only
  refine list_go (by assumption) ?_
  cases st
  · go_wp2
    go_ret2
    exact ⟨q_ii (by rw [HR.out]; rfl) (by rw [HY.out]; rfl), HB.out⟩
  · go_wp2_with fail
    refine (HK.out H w3 HI.out).mono ?_
    rintro e w4 ⟨rfl, hb⟩
    replace HB := Lib.hid (HB.out.trans (hb.mono HB.out.size))
    replace HI := Lib.hid (HI.out.go hb).anew
    clear hb HK
    dsimp only
    refine list_go (by assumption) ?_
    cases ch
    · go_wp2
      go_ret2
      exact ⟨q_ii (by rw [HR.out]; rfl) (by rw [HY.out]; rfl), HB.out⟩
    · go_wp2_with fail
      refine (HL.out H w4 HI.out.p).mono ?_
      rintro e w5 ⟨rfl, rfl⟩
      dsimp only
      refine list_go (by assumption) ?_
      go_wp2
      go_ret2
      exact ⟨q_ii (by rw [HR.out]; rfl) (by rw [HY.out]; rfl), HB.out⟩
end Go.Proofs.YthinkiljhkanhaaGreatDoor
