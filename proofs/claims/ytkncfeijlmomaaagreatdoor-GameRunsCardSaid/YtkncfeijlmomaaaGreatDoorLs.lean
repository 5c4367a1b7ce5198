/-
  The begin.
-/
import Derived.Test.YtkncfeijlmomaaaGreatDoorG14
namespace Go.Proofs.YtkncfeijlmomaaaGreatDoor
open Go.RowKit Go.Sort
set_option linter.unusedSimpArgs false
set_option linter.unusedVariables false
set_option maxRecDepth 20000

theorem at_file (j r : Nat) (hj : j < 8) (hr : r < 8) : sAt (j : Int) (r : Int) = ((8 * r + j : Nat) : Int) := by
  unfold sAt; rw [if_pos ((onB_iff _ _).2 (by omega))]; omega
theorem GB.offR {B : Nat} {w : World} (h : GB B w) : w.rangeAt 0 0 (nums offN 0 8) := fun j v hv => by
  have hj : j < 8 := by have := (List.getElem?_eq_some_iff.1 hv).1; rwa [nums_len] at this
  rw [nums_get _ _ _ _ hj, Nat.zero_add] at hv
  rw [Nat.zero_add, h.off j hj, hv]

set_option maxHeartbeats 2000000 in
set_option maxRecDepth 100000 in
theorem empty_any (w : World) :
    Calls Tryz.prog 92 #[] w fun e w' => e = .returned (.agg (pc emptyN).toArray) ∧ Below w.heap.size w w' := by
  obtain ⟨Y, hY⟩ : ∃ Y, Y = (pc emptyN).toArray := ⟨_, rfl⟩
  rw [← hY]
  have HY := Lib.hid hY
  have hy := empty_built
  rw [← hY] at hy
  have hsz : Y.size = 133 := by rw [hY, pc_size]
  clear hY
  go_enter Tryz.func92, Tryz.ntmps92
  go_upto_region 1 with (fail)
  refine wp_region_lit ?_
  refine wpList_plain rfl (fun K hK => ?_)
  go_simp
  refine hK _ _ ?_
  clear hK K hy
  have hpn : PB (w.alloc (.cells Tryz.zeroCells29 29)) w.heap.size (fun _ => 0) := by rw [zeroPos]; exact PB.new rfl
  refine wpList_store_mid rfl 29 _ _ rfl w.heap.size 0 Y rfl rfl (by rw [hsz]; exact hpn.there) (by rw [infoPos, hsz]) (by rw [HY.out]; exact pc_one _) ?_
  refine forgetL_B (fun W => PB W w.heap.size emptyN ∧ Below w.heap.size w W) (by
    rw [HY.out, List.toList_toArray]
    exact ⟨hpn.store (Q := emptyN), below_store (b := w.heap.size) emptyN (below_new _) (Nat.le_refl _) (by simp)⟩) ?_
  rintro W ⟨hp, hb⟩
  have HP := Lib.hid hp
  have HB := Lib.hid hb
  clear hp hb hpn hsz
  show Exit.then _ _ Exit.normal _ _
  refine ret_go (by assumption) ?_
  refine bodyPost_ret (v := .agg (pc emptyN).toArray) ?_ rfl ⟨by rw [HY.out], HB.out⟩
  exact results_cell_mid (p := 0) (ty := 29) rfl _ W w.heap.size _ _ rfl HP.out.range Tryz.underlying29 rfl (by rw [infoPos, pc_len])
theorem infoOff : (Tryz.prog.info? 122).map (·.size) = some 8 := by kernel_rfl
theorem infoKind : (Tryz.prog.info? 22).map (·.size) = some 1 := by kernel_rfl
theorem index_off (j : Nat) (hj : j < 8) (w : World) : (Instr.index 122 (.agg (nums offN 0 8).toArray) (.int .i64 (j : Int))).run Tryz.prog w = .ok (.int .i64 (offN j)) w := by
  have px : (Go.part 22 (nums offN 0 8).toArray (j * 1)).run Tryz.prog w = .ok (.int .i64 (offN j)) w := by
    have hg : (nums offN 0 8).toArray[j * 1]? = some (.int .i64 (offN j)) := by rw [nums_at _ _ _ _ (by omega)]; simp
    generalize (nums offN 0 8).toArray = Z at hg
    simp [Go.part, isAgg, run_underlying Tryz.underlying22] at hg ⊢
    simp [hg]
  have hr : 0 ≤ (j : Int) ∧ (j : Int) < (8 : Nat) := by omega
  simp only [Instr.index, asIntOf, Sem.run_bind, Sem.run_pure, Result.andThen_ok, run_underlying Tryz.underlying122, hr, and_self, if_true, size_of_info infoKind, Int.toNat_natCast, px]
theorem wpList_off {ops : Array Oper} {rest : List Oper} {op : Oper} {a : Act} {w : World} {Q : Exit → Act → World → Prop} (hw : Region.wanted op (yielded ops a.tmps) = true) (x : Operand) (ho : op.op = .load 122 x)
    (Z : Array Value) (hZ : Z = (nums offN 0 8).toArray) (hx : a.eval x = .pointer (some ⟨0, 0, none⟩)) (B : Nat) (hc : GB B w) (h : wpList Tryz.prog ops Q rest (a.put op.dst (.agg Z)) w) : wpList Tryz.prog ops Q (op :: rest) a w := by
  subst hZ
  exact BigFrame.wpList_want hw fun _ hK => wp_load_mid 122 x ho _ 0 hx (nums offN 0 8) _ hc.offR Tryz.underlying122 rfl (by rw [infoOff, nums_len]) (hK _ _ h)
set_option maxHeartbeats 4000000 in
set_option maxRecDepth 100000 in
theorem start_any (w : World) (B : Nat) (hg : GB B w) (hB : B ≤ w.heap.size) :
    Calls Tryz.prog 51 #[] w fun e w' => e = .returned (.agg (pc startN).toArray) ∧ Below w.heap.size w w' := by
  obtain ⟨Y, hY⟩ : ∃ Y, Y = (pc startN).toArray := ⟨_, rfl⟩
  obtain ⟨E, hE⟩ : ∃ E, E = (pc emptyN).toArray := ⟨_, rfl⟩
  obtain ⟨Z, hZ⟩ : ∃ Z, Z = (nums offN 0 8).toArray := ⟨_, rfl⟩
  have HIX := Lib.hid (show ∀ (j : Nat) (hj : j < 8) (W : World), (Instr.index 122 (.agg Z) (.int .i64 (j : Int))).run Tryz.prog W = .ok (.int .i64 (offN j)) W from fun j hj W => by rw [hZ]; exact index_off j hj W)
  have HEM := Lib.hid (fun W => empty_any W)
  rw [← hY]
  rw [← hE] at HEM
  have HY := Lib.hid hY
  have HE := Lib.hid hE
  have HZ := Lib.hid hZ
  have HG := Lib.hid hg
  have hez : E.size = 133 := by rw [hE, pc_size]
  have hpn : PB (w.alloc (.cells Tryz.zeroCells29 29)) w.heap.size (fun _ => 0) := by rw [zeroPos]; exact PB.new rfl
  have HN := Lib.hid hpn
  have HB0 := Lib.hid (below_new (w := w) (.cells Tryz.zeroCells29 29))
  clear hY hE hZ hg hpn
  go_enter Tryz.func51, Tryz.ntmps51
  go_upto_region 1 with (fail)
  refine forget_B (fun W => PB W w.heap.size (fun _ => 0) ∧ Below w.heap.size w W) ⟨HN.out, HB0.out⟩ ?_
  clear HN HB0
  rintro W ⟨hp, hb⟩
  have HN := Lib.hid hp
  have HB0 := Lib.hid hb
  clear hp hb
  go_wp2_with fail
  refine (HEM.out _).mono ?_
  rintro e w1 ⟨rfl, hb1⟩
  have HN1 := Lib.hid (HN.out.go hb1)
  have HB1 := Lib.hid (HB0.out.trans (hb1.mono HB0.out.size))
  clear hb1 HN HB0
  go_wp2_with (refine wpList_new E emptyN HE.out (by rfl) (by rfl) ?_)
  intro W2 hp2 hb2 hz2
  have HS0 := Lib.hid (show PS w W2 w1.heap.size emptyN from ⟨HN1.out.go hb2, hp2, HB1.out.trans (hb2.mono HB1.out.size), HN1.out.lt⟩)
  have HG2 := Lib.hid (HG.out.below ((HB1.out.trans (hb2.mono HB1.out.size)).mono hB))
  clear hp2 hb2 hz2 HN1 HB1 HG hez
  go_wp2_with (refine wpList_off (by rfl) _ (by rfl) Z HZ.out (by rfl) B HG2.out ?_)
  clear HG2
  go_loopw [6] (fun i wr => ∃ j : Nat, j ≤ 8 ∧ i = .int .i64 (j : Int) ∧ PS w wr w1.heap.size (mixS j)) (fun i _ => 8 - (intOf i).toNat)
  case atStart => exact ⟨0, Nat.zero_le _, rfl, HS0.out.congr mixS_zero⟩
  case round =>
    clear HS0
    obtain ⟨j, hj, rfl, h1⟩ := hrel
    have HS := Lib.hid h1
    clear h1
    by_cases hlt : j < 8
    · have hix := HIX.out j hlt
      have HST := Lib.hid (mixS_step j hlt)
      obtain ⟨k, hk⟩ : ∃ k, offN j = k := ⟨_, rfl⟩
      rw [hk] at hix HST
      clear hk
      generalize hP0 : mixS j = P0 at HS HST
      clear hP0
      have HA := Lib.hid (at_file j 0 hlt (by omega))
      rw [show 8 * 0 + j = j by omega] at HA
      go_wp2_with fail
      refine (at_any (j : Int) 0 _).mono ?_
      rw [show sAt (j : Int) 0 = ((j : Nat) : Int) from HA.out]
      rintro e v0 ⟨rfl, hb⟩
      have hs := HS.out.go hb
      have hm64 : j < 64 := by omega
      have hm0 : (0 : Int) ≤ j := by omega
      have hm1 : (j : Int) < 64 := by omega
      have e1 := hs.p.cell (j * 2) (by omega)
      have e2 := hs.p.cell (j * 2 + 1) (by omega)
      have e3 := hs.p.fr (j * 2)
      have e4 := hs.p.fr (j * 2 + 1)
      have hs2 := (hs.set (j * 2) k (by omega)).set (j * 2 + 1) 0 (by omega)
      replace HS := Lib.hid hs2
      clear hb hs hs2 HA
      generalize hQ0 : P0 (j * 2) = q1 at e1
      generalize hR0 : P0 (j * 2 + 1) = q2 at e2
      clear hQ0 hR0
      generalize hP1 : setN (setN P0 (j * 2) k) (j * 2 + 1) 0 = P1 at HS
      have HP1 := Lib.hid hP1
      clear hP1
      have HA := Lib.hid (at_file j 1 hlt (by omega))
      rw [show 8 * 1 + j = 8 + j by omega] at HA
      go_wp2_with fail
      refine (at_any (j : Int) 1 _).mono ?_
      rw [show sAt (j : Int) 1 = ((8 + j : Nat) : Int) from HA.out]
      rintro e v1 ⟨rfl, hb⟩
      have hs := HS.out.go hb
      obtain ⟨m, hm⟩ : ∃ m, 8 + j = m := ⟨_, rfl⟩
      rw [hm]
      have hm64 : m < 64 := by omega
      have hm0 : (0 : Int) ≤ m := by omega
      have hm1 : (m : Int) < 64 := by omega
      have e1 := hs.p.cell (m * 2) (by omega)
      have e2 := hs.p.cell (m * 2 + 1) (by omega)
      have e3 := hs.p.fr (m * 2)
      have e4 := hs.p.fr (m * 2 + 1)
      have hs2 := (hs.set (m * 2) 1 (by omega)).set (m * 2 + 1) 0 (by omega)
      rw [← hm] at hs2
      replace HS := Lib.hid hs2
      rw [hm] at HS
      have HM1 := Lib.hid hm
      clear hb hs hs2 hm HA
      generalize hQ1 : P1 (m * 2) = q1 at e1
      generalize hR1 : P1 (m * 2 + 1) = q2 at e2
      clear hQ1 hR1
      generalize hP2 : setN (setN P1 (m * 2) 1) (m * 2 + 1) 0 = P2 at HS
      rw [← HM1.out] at hP2
      have HP2 := Lib.hid hP2
      clear hP2
      have HA := Lib.hid (at_file j 6 hlt (by omega))
      rw [show 8 * 6 + j = 48 + j by omega] at HA
      go_wp2_with fail
      refine (at_any (j : Int) 6 _).mono ?_
      rw [show sAt (j : Int) 6 = ((48 + j : Nat) : Int) from HA.out]
      rintro e v2 ⟨rfl, hb⟩
      have hs := HS.out.go hb
      obtain ⟨m, hm⟩ : ∃ m, 48 + j = m := ⟨_, rfl⟩
      rw [hm]
      have hm64 : m < 64 := by omega
      have hm0 : (0 : Int) ≤ m := by omega
      have hm1 : (m : Int) < 64 := by omega
      have e1 := hs.p.cell (m * 2) (by omega)
      have e2 := hs.p.cell (m * 2 + 1) (by omega)
      have e3 := hs.p.fr (m * 2)
      have e4 := hs.p.fr (m * 2 + 1)
      have hs2 := (hs.set (m * 2) 1 (by omega)).set (m * 2 + 1) 1 (by omega)
      rw [← hm] at hs2
      replace HS := Lib.hid hs2
      rw [hm] at HS
      have HM2 := Lib.hid hm
      clear hb hs hs2 hm HA
      generalize hQ2 : P2 (m * 2) = q1 at e1
      generalize hR2 : P2 (m * 2 + 1) = q2 at e2
      clear hQ2 hR2
      generalize hP3 : setN (setN P2 (m * 2) 1) (m * 2 + 1) 1 = P3 at HS
      rw [← HM2.out] at hP3
      have HP3 := Lib.hid hP3
      clear hP3
      have HA := Lib.hid (at_file j 7 hlt (by omega))
      rw [show 8 * 7 + j = 56 + j by omega] at HA
      go_wp2_with fail
      refine (at_any (j : Int) 7 _).mono ?_
      rw [show sAt (j : Int) 7 = ((56 + j : Nat) : Int) from HA.out]
      rintro e v3 ⟨rfl, hb⟩
      have hs := HS.out.go hb
      obtain ⟨m, hm⟩ : ∃ m, 56 + j = m := ⟨_, rfl⟩
      rw [hm]
      have hm64 : m < 64 := by omega
      have hm0 : (0 : Int) ≤ m := by omega
      have hm1 : (m : Int) < 64 := by omega
      have e1 := hs.p.cell (m * 2) (by omega)
      have e2 := hs.p.cell (m * 2 + 1) (by omega)
      have e3 := hs.p.fr (m * 2)
      have e4 := hs.p.fr (m * 2 + 1)
      have hs2 := (hs.set (m * 2) k (by omega)).set (m * 2 + 1) 1 (by omega)
      rw [← hm] at hs2
      replace HS := Lib.hid hs2
      rw [hm] at HS
      have HM3 := Lib.hid hm
      clear hb hs hs2 hm HA
      generalize hQ3 : P3 (m * 2) = q1 at e1
      generalize hR3 : P3 (m * 2 + 1) = q2 at e2
      clear hQ3 hR3
      generalize hP4 : setN (setN P3 (m * 2) k) (m * 2 + 1) 1 = P4 at HS
      rw [← HM3.out] at hP4
      have HP4 := Lib.hid hP4
      clear hP4
      have HEND := Lib.hid (HS.out.congr (Q := mixS (j + 1)) (fun i hi => by rw [← HP4.out, ← HP3.out, ← HP2.out, ← HP1.out]; exact HST.out i hi))
      clear HS HST HP1 HP2 HP3 HP4
      go_wp2
      go_roundw
      case rel => exact ⟨j + 1, by omega, by go_num, HEND.out⟩
      case measure => simp [intOf]; omega
    · obtain rfl : j = 8 := by omega
      have e1 := HS.out.p.cell 129 (by omega)
      have e3 := HS.out.p.fr 129
      have HF := Lib.hid ((HS.out.set 129 15 (by omega)).congr (Q := startN) mixS_end)
      clear HS
      generalize mixS 8 129 = q1 at e1
      go_upto_region 11 with (fail)
      generalize wr.setCell ⟨w1.heap.size, 129, none⟩ (.int .i64 15) = W8 at HF ⊢
      refine wp_region_lit ?_
      refine wpList_pos (by rfl) _ (by rfl) w1.heap.size startN Y HY.out (by rfl) HF.out.p ?_
      refine wpList_store_mid rfl 29 _ _ rfl w.heap.size 0 (pc startN).toArray rfl (congrArg Value.agg HY.out) (by rw [pc_size]; exact HF.out.z.there) (by rw [infoPos, pc_size]) (pc_one _) ?_
      rw [List.toList_toArray]
      have HR := Lib.hid (HF.out.z.store (Q := startN)).range
      have HBB := Lib.hid (below_store (b := w.heap.size) startN HF.out.b (Nat.le_refl _) HF.out.b.size)
      clear HF
      generalize W8.setCells w.heap.size 0 (pc startN) = W9 at HR HBB ⊢
      show Exit.then _ _ Exit.normal _ _
      refine ret_go (by assumption) ?_
      refine bodyPost_ret (v := .agg (pc startN).toArray) ?_ rfl ⟨by rw [HY.out], HBB.out⟩
      exact results_cell_mid (p := 0) (ty := 29) rfl _ W9 w.heap.size _ _ rfl HR.out Tryz.underlying29 rfl (by rw [infoPos, pc_len])
end Go.Proofs.YtkncfeijlmomaaaGreatDoor
